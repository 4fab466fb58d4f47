/- What each Go function of chapter 1 (pipes) answers at every argument, the second half: those that hand back a pipe. -/
import Derived.Test.YthkjjnnmnacgcaaPipe
import Derived.Test.YthkjjnnmnacgcaaPipeWords
import Derived.Test.YthkjjnnmnacgcaaClone
import Derived.Handy

namespace Go.Proofs.Ythkjjnnmnacgcaa
open Go.RowKit
set_option maxRecDepth 100000
set_option linter.unusedSimpArgs false
set_option linter.unusedVariables false

theorem tear (r : Int) (b : ByteArray) (e k : Bool) (w : World) :
    Calls Try.prog 43 #[.agg #[.int .i64 r, .string b, .bool e, .bool k]] w fun x w' => x = .returned (.agg #[.int .i64 r, .string ⟨#[]⟩, .bool e, .bool true]) ∧ Below w.heap.size w w' := by
  go_enter Try.func43, Try.ntmps43
  go_wp2
  go_returns
  exact ⟨rfl, (by repeat' (first | (with_reducible exact Below.refl _ _) | (with_reducible refine Below.drew ?_) | (with_reducible refine bo_drewN _ ?_) | (with_reducible refine bo_alloc ?_ _) | (refine bchain ?_ (by with_reducible assumption)) | (with_reducible refine Below.setCell ?_ ?_ _) | go_size))⟩



theorem apart (r : Int) (b : ByteArray) (e k : Bool) (w : World) (hb : b.size ≤ 281474976710656) :
    Calls Try.prog 60 #[.agg #[.int .i64 r, .string b, .bool e, .bool k]] w fun x w' => x = .returned (.agg #[.int .i64 r, .string b, .bool e, .bool k]) ∧ Below w.heap.size w w' := by
  go_enter Try.func60, Try.ntmps60
  go_wp2_with fail
  refine (clone b _ hb).mono ?_; rintro x w1 ⟨rfl, hb1⟩; have hz1 := hb1.size; (try simp at hz1); have hc1 := fun o => hb1.cell (p := ⟨w.heap.size, o, none⟩) (by first | (simp; done) | (simp; omega) | omega); have hf1 := fun o => hb1.frozen (p := ⟨w.heap.size, o, none⟩) (by first | (simp; done) | (simp; omega) | omega); have hcn1 := fun o => hb1.cell (p := ⟨w.heap.size + 1, o, none⟩) (by first | (simp; done) | (simp; omega) | omega); have hfn1 := fun o => hb1.frozen (p := ⟨w.heap.size + 1, o, none⟩) (by first | (simp; done) | (simp; omega) | omega)
  go_wp2_with fail
  refine bodyPost_ret (v := .agg #[.int .i64 r, .string b, .bool e, .bool k]) (by simp [results, Try.results60, go_sem, *]) rfl ?_
  exact ⟨rfl, (by repeat' (first | (with_reducible exact Below.refl _ _) | (with_reducible refine Below.drew ?_) | (with_reducible refine bo_drewN _ ?_) | (with_reducible refine bo_alloc ?_ _) | (refine bchain ?_ (by with_reducible assumption)) | (with_reducible refine Below.setCell ?_ ?_ _) | go_size))⟩

theorem endP (r : Int) (b : ByteArray) (e k : Bool) (w : World) (hb : b.size ≤ 281474976710656) :
    Calls Try.prog 59 #[.agg #[.int .i64 r, .string b, .bool e, .bool k]] w fun x w' => x = .returned (.agg #[.int .i64 r, .string b, .bool true, .bool k]) ∧ Below w.heap.size w w' := by
  go_enter Try.func59, Try.ntmps59
  go_wp2_with fail
  refine (apart r b true k _ hb).mono ?_; rintro x w1 ⟨rfl, hb1⟩; have hz1 := hb1.size; (try simp at hz1); have hc1 := fun o => hb1.cell (p := ⟨w.heap.size, o, none⟩) (by first | (simp; done) | (simp; omega) | omega); have hf1 := fun o => hb1.frozen (p := ⟨w.heap.size, o, none⟩) (by first | (simp; done) | (simp; omega) | omega); have hcn1 := fun o => hb1.cell (p := ⟨w.heap.size + 1, o, none⟩) (by first | (simp; done) | (simp; omega) | omega); have hfn1 := fun o => hb1.frozen (p := ⟨w.heap.size + 1, o, none⟩) (by first | (simp; done) | (simp; omega) | omega)
  go_wp2_with fail
  refine bodyPost_ret (v := .agg #[.int .i64 r, .string b, .bool true, .bool k]) (by simp [results, Try.results59, go_sem, *]) rfl ?_
  exact ⟨rfl, (by repeat' (first | (with_reducible exact Below.refl _ _) | (with_reducible refine Below.drew ?_) | (with_reducible refine bo_drewN _ ?_) | (with_reducible refine bo_alloc ?_ _) | (refine bchain ?_ (by with_reducible assumption)) | (with_reducible refine Below.setCell ?_ ?_ _) | go_size))⟩



theorem okB_new (r : Int) : okB r ⟨#[]⟩ false = newB r := by
  have h : ((⟨#[]⟩ : ByteArray).size : Int) = 0 := rfl
  simp only [okB, newB, h, Bool.not_false, Bool.true_or, Bool.and_true]
  by_cases h1 : 1 ≤ r <;> by_cases h2 : r ≤ 2000 <;> simp [h1, h2] <;> omega

theorem specNew (r : Int) (w : World) :
    Calls Try.prog 49 #[.int .i64 r] w fun x w' => x = .returned (if newB r then .tuple #[.agg #[.int .i64 r, .string ⟨#[]⟩, .bool false, .bool false], .bool true] else .tuple #[.agg #[.int .i64 0, .string ⟨#[]⟩, .bool false, .bool false], .bool false]) ∧ Below w.heap.size w w' := by
  cases hv : newB r
  · have hd : decide (1 ≤ r ∧ r ≤ 2000) = false := hv
    go_enter Try.func49, Try.ntmps49
    go_wp2_with fail
    refine (in1 _ _ _ _).mono ?_; rw [hd]; rintro x w' ⟨rfl, rfl⟩
    go_wp2_with fail
    refine bodyPost_ret (v := .tuple #[.agg #[.int .i64 0, .string ⟨#[]⟩, .bool false, .bool false], .bool false]) (by simp [results, Try.results49, go_sem, *]) rfl ?_
    exact ⟨rfl, (by repeat' (first | (with_reducible exact Below.refl _ _) | (with_reducible refine Below.drew ?_) | (with_reducible refine bo_drewN _ ?_) | (with_reducible refine bo_alloc ?_ _) | (refine bchain ?_ (by with_reducible assumption)) | (with_reducible refine Below.setCell ?_ ?_ _) | go_size))⟩
  · have hd : decide (1 ≤ r ∧ r ≤ 2000) = true := hv
    go_enter Try.func49, Try.ntmps49
    go_wp2_with fail
    refine (in1 _ _ _ _).mono ?_; rw [hd]; rintro x w' ⟨rfl, rfl⟩
    go_wp2_with fail
    refine bodyPost_ret (v := .tuple #[.agg #[.int .i64 r, .string ⟨#[]⟩, .bool false, .bool false], .bool true]) (by simp [results, Try.results49, go_sem, *]) rfl ?_
    exact ⟨rfl, (by repeat' (first | (with_reducible exact Below.refl _ _) | (with_reducible refine Below.drew ?_) | (with_reducible refine bo_drewN _ ?_) | (with_reducible refine bo_alloc ?_ _) | (refine bchain ?_ (by with_reducible assumption)) | (with_reducible refine Below.setCell ?_ ?_ _) | go_size))⟩

theorem implNew (r : Int) (w : World) :
    Calls Try.prog 39 #[.int .i64 r] w fun x w' => x = .returned (if newB r then .tuple #[.agg #[.int .i64 r, .string ⟨#[]⟩, .bool false, .bool false], .bool true] else .tuple #[.agg #[.int .i64 0, .string ⟨#[]⟩, .bool false, .bool false], .bool false]) ∧ Below w.heap.size w w' := by
  have hn := okB_new r
  cases hv : newB r
  · go_enter Try.func39, Try.ntmps39
    go_wp2_with fail
    refine (right r ⟨#[]⟩ false false _ empty_le).mono ?_; rw [hn, hv]; rintro x w1 ⟨rfl, hb1⟩; have hz1 := hb1.size; (try simp at hz1); have hc1 := fun o => hb1.cell (p := ⟨w.heap.size, o, none⟩) (by first | (simp; done) | (simp; omega) | omega); have hf1 := fun o => hb1.frozen (p := ⟨w.heap.size, o, none⟩) (by first | (simp; done) | (simp; omega) | omega); have hcn1 := fun o => hb1.cell (p := ⟨w.heap.size + 1, o, none⟩) (by first | (simp; done) | (simp; omega) | omega); have hfn1 := fun o => hb1.frozen (p := ⟨w.heap.size + 1, o, none⟩) (by first | (simp; done) | (simp; omega) | omega)
    go_wp2_with fail
    refine bodyPost_ret (v := .tuple #[.agg #[.int .i64 0, .string ⟨#[]⟩, .bool false, .bool false], .bool false]) (by simp [results, Try.results39, go_sem, *]) rfl ?_
    exact ⟨rfl, (by repeat' (first | (with_reducible exact Below.refl _ _) | (with_reducible refine Below.drew ?_) | (with_reducible refine bo_drewN _ ?_) | (with_reducible refine bo_alloc ?_ _) | (refine bchain ?_ (by with_reducible assumption)) | (with_reducible refine Below.setCell ?_ ?_ _) | go_size))⟩
  · go_enter Try.func39, Try.ntmps39
    go_wp2_with fail
    refine (right r ⟨#[]⟩ false false _ empty_le).mono ?_; rw [hn, hv]; rintro x w1 ⟨rfl, hb1⟩; have hz1 := hb1.size; (try simp at hz1); have hc1 := fun o => hb1.cell (p := ⟨w.heap.size, o, none⟩) (by first | (simp; done) | (simp; omega) | omega); have hf1 := fun o => hb1.frozen (p := ⟨w.heap.size, o, none⟩) (by first | (simp; done) | (simp; omega) | omega); have hcn1 := fun o => hb1.cell (p := ⟨w.heap.size + 1, o, none⟩) (by first | (simp; done) | (simp; omega) | omega); have hfn1 := fun o => hb1.frozen (p := ⟨w.heap.size + 1, o, none⟩) (by first | (simp; done) | (simp; omega) | omega)
    go_wp2_with fail
    refine bodyPost_ret (v := .tuple #[.agg #[.int .i64 r, .string ⟨#[]⟩, .bool false, .bool false], .bool true]) (by simp [results, Try.results39, go_sem, *]) rfl ?_
    exact ⟨rfl, (by repeat' (first | (with_reducible exact Below.refl _ _) | (with_reducible refine Below.drew ?_) | (with_reducible refine bo_drewN _ ?_) | (with_reducible refine bo_alloc ?_ _) | (refine bchain ?_ (by with_reducible assumption)) | (with_reducible refine Below.setCell ?_ ?_ _) | go_size))⟩
end Go.Proofs.Ythkjjnnmnacgcaa
