/- Chapter 16's model: NewTunnel, In, Out, Back, Torn, Over. -/
import Derived.Test.YthkjjnnmnacgcaaTunSpec1
import Derived.Test.YthkjjnnmnacgcaaPipe4
import Derived.Test.YthkjjnnmnacgcaaLater
import Derived.Deep.RegionHeld3
import Derived.Deep.Cut
import Derived.Deep.DeepCutAuto
import Derived.Deep.QuietTactic


namespace Go.Proofs.Ythkjjnnmnacgcaa
open Go.RowKit
set_option maxRecDepth 100000
set_option linter.unusedSimpArgs false
set_option linter.unusedVariables false
theorem specMin16 (a b : Int) (w : World) : Calls Try.prog 65 #[.int .i64 a, .int .i64 b] w fun x w' => x = .returned (.int .i64 (min a b)) ∧ w' = w := by
  by_cases h : a < b
  · rw [show min a b = a by omega]
    go_enter Try.func65, Try.ntmps65
    go_wp2_with fail
    go_ret
    exact ⟨rfl, rfl⟩
  · rw [show min a b = b by omega]
    go_enter Try.func65, Try.ntmps65
    go_wp2_with fail
    go_ret
    exact ⟨rfl, rfl⟩
theorem specMax16 (a b : Int) (w : World) : Calls Try.prog 68 #[.int .i64 a, .int .i64 b] w fun x w' => x = .returned (.int .i64 (max a b)) ∧ w' = w := by
  by_cases h : b < a
  · rw [show max a b = a by omega]
    go_enter Try.func68, Try.ntmps68
    go_wp2_with fail
    go_ret
    exact ⟨rfl, rfl⟩
  · rw [show max a b = b by omega]
    go_enter Try.func68, Try.ntmps68
    go_wp2_with fail
    go_ret
    exact ⟨rfl, rfl⟩
theorem specPushShut0 (r : Int) (b : ByteArray) (e k : Bool) (s : ByteArray) (g : Nat) (w : World) (hek : (e || k) = true)
    (hg2 : w.cell? ⟨g, 2, none⟩ = some (.bool e)) (hg3 : w.cell? ⟨g, 3, none⟩ = some (.bool k)) :
    Calls Try.prog 62 #[.pointer (some ⟨g, 0, none⟩), .string s] w fun x w' => x = .returned (.int .i64 0) ∧ w' = w := by
  cases e
  · cases k
    · cases hek
    · go_enter Try.func62, Try.ntmps62
      go_wp2_with fail
      go_ret
      exact ⟨rfl, rfl⟩
  · go_enter Try.func62, Try.ntmps62
    go_wp2_with fail
    go_ret
    exact ⟨rfl, rfl⟩
theorem specPushOpen0 (r : Int) (b : ByteArray) (s : ByteArray) (g : Nat) (w : World) (hs : s.size ≤ 1048576) (hr : r ≤ 2000) (hb : (b.size : Int) ≤ r)
    (n : Nat) (hn : min (s.size : Int) (r - b.size) = n)
    (hg0 : w.cell? ⟨g, 0, none⟩ = some (.int .i64 r)) (hg1 : w.cell? ⟨g, 1, none⟩ = some (.string b)) (hg2 : w.cell? ⟨g, 2, none⟩ = some (.bool false)) (hg3 : w.cell? ⟨g, 3, none⟩ = some (.bool false))
    (hf : w.frozen? ⟨g, 1, none⟩ = false) :
    Calls Try.prog 62 #[.pointer (some ⟨g, 0, none⟩), .string s] w fun x w' => x = .returned (.int .i64 n) ∧ ∃ q, w' = (w.drewN q).setCell ⟨g, 1, none⟩ (.string (b ++ s.extract 0 n)) := by
  have hns : n ≤ s.size := by omega
  go_enter Try.func62, Try.ntmps62
  go_wp2_with fail
  go_quiet ((go_at_call 65; exact Calls.quiet_of_same (specMin16 _ _ _)))
  go_wp2_with fail
  go_region
  go_wp2_with fail
  go_ret
  exact ⟨congrArg (fun z => Ending.returned (.int .i64 z)) hn, _, rfl⟩
theorem specPushShut4 (r : Int) (b : ByteArray) (e k : Bool) (s : ByteArray) (g : Nat) (w : World) (hek : (e || k) = true)
    (hg2 : w.cell? ⟨g, 6, none⟩ = some (.bool e)) (hg3 : w.cell? ⟨g, 7, none⟩ = some (.bool k)) :
    Calls Try.prog 62 #[.pointer (some ⟨g, 4, none⟩), .string s] w fun x w' => x = .returned (.int .i64 0) ∧ w' = w := by
  cases e
  · cases k
    · cases hek
    · go_enter Try.func62, Try.ntmps62
      go_wp2_with fail
      go_ret
      exact ⟨rfl, rfl⟩
  · go_enter Try.func62, Try.ntmps62
    go_wp2_with fail
    go_ret
    exact ⟨rfl, rfl⟩
theorem specPushOpen4 (r : Int) (b : ByteArray) (s : ByteArray) (g : Nat) (w : World) (hs : s.size ≤ 1048576) (hr : r ≤ 2000) (hb : (b.size : Int) ≤ r)
    (n : Nat) (hn : min (s.size : Int) (r - b.size) = n)
    (hg0 : w.cell? ⟨g, 4, none⟩ = some (.int .i64 r)) (hg1 : w.cell? ⟨g, 5, none⟩ = some (.string b)) (hg2 : w.cell? ⟨g, 6, none⟩ = some (.bool false)) (hg3 : w.cell? ⟨g, 7, none⟩ = some (.bool false))
    (hf : w.frozen? ⟨g, 5, none⟩ = false) :
    Calls Try.prog 62 #[.pointer (some ⟨g, 4, none⟩), .string s] w fun x w' => x = .returned (.int .i64 n) ∧ ∃ q, w' = (w.drewN q).setCell ⟨g, 5, none⟩ (.string (b ++ s.extract 0 n)) := by
  have hns : n ≤ s.size := by omega
  go_enter Try.func62, Try.ntmps62
  go_wp2_with fail
  go_quiet ((go_at_call 65; exact Calls.quiet_of_same (specMin16 _ _ _)))
  go_wp2_with fail
  go_region
  go_wp2_with fail
  go_ret
  exact ⟨congrArg (fun z => Ending.returned (.int .i64 z)) hn, _, rfl⟩
theorem specPull16 (b : ByteArray) (n : Int) (g : Nat) (w : World) (hb : b.size ≤ maxLen)
    (hg : w.cell? ⟨g, 1, none⟩ = some (.string b)) (hf : w.frozen? ⟨g, 1, none⟩ = false) :
    Calls Try.prog 64 #[.pointer (some ⟨g, 0, none⟩), .int .i64 n] w fun x w' => x = .returned (.string (b.extract 0 (max 0 (min n b.size)).toNat)) ∧ w' = w.setCell ⟨g, 1, none⟩ (.string (b.extract (max 0 (min n b.size)).toNat b.size)) := by
  unfold maxLen at hb
  have h1 : 0 ≤ max 0 (min n (b.size : Int)) := by omega
  have h2 : max 0 (min n (b.size : Int)) ≤ b.size := by omega
  go_enter Try.func64, Try.ntmps64
  go_wp2_with fail
  refine (specMin16 _ _ _).mono ?_; rintro x w1 ⟨rfl, rfl⟩
  go_wp2_with fail
  refine (specMax16 _ _ _).mono ?_; rintro x w1 ⟨rfl, rfl⟩
  go_wp2_with fail
  go_ret
  exact ⟨rfl, rfl⟩
set_option maxHeartbeats 1000000 in
theorem specL16In_e (r : Int) (b : ByteArray) (k : Bool) (r2 : Int) (b2 : ByteArray) (e2 k2 : Bool) (wt cm : Int) (s : ByteArray) (fin : Bool) (g : Nat) (w : World) (R : RowIs w g 27 [.int .i64 r, .string b, .bool true, .bool k, .int .i64 r2, .string b2, .bool e2, .bool k2, .int .i64 wt, .int .i64 cm]) :
    Calls Try.prog 40 #[.pointer (some ⟨g, 0, none⟩), .string s, .bool fin] w fun x w' => x = .returned (.bool false) ∧ w' = w.drewN 1 := by
  have hx0 := RowIs.cell (j := 0) R rfl
  have hx1 := RowIs.cell (j := 1) R rfl
  have hx2 := RowIs.cell (j := 2) R rfl
  have hx3 := RowIs.cell (j := 3) R rfl
  go_enter Try.func40, Try.ntmps40
  go_wp2_with fail
  refine wp_region_held_drew (S := (fun u => u.cell? ⟨g, 0, none⟩ = some (.int .i64 r) ∧ u.cell? ⟨g, 1, none⟩ = some (.string b) ∧ u.cell? ⟨g, 2, none⟩ = some (.bool true) ∧ u.cell? ⟨g, 3, none⟩ = some (.bool k))) (by kernel_rfl) (And.intro hx0 (And.intro hx1 (And.intro hx2 hx3))) (fun hS => ?_)
  refine wpAnyH_take (i := 0) (v := ?_) rfl (by kernel_rfl) (by kernel_rfl) (by kernel_rfl) (fun _ _ _ h => h) (Or.inl ⟨by kernel_rfl, ?_⟩) hS ?_; rotate_left; focus (intro uu hu; clear hu; go_simp; try with_reducible rfl)
  try simp only [Act.put, List.getElem_toArray, List.getElem_cons_succ, List.getElem_cons_zero, List.setIfInBounds_toArray, List.set_cons_zero, List.set_cons_succ]
  refine wpAnyH_take (i := 1) (v := ?_) rfl (by kernel_rfl) (by kernel_rfl) (by kernel_rfl) (fun _ _ _ h => h) (Or.inl ⟨by kernel_rfl, ?_⟩) hS ?_; rotate_left; focus (intro uu hu; clear hu; go_simp; try with_reducible rfl)
  try simp only [Act.put, List.getElem_toArray, List.getElem_cons_succ, List.getElem_cons_zero, List.setIfInBounds_toArray, List.set_cons_zero, List.set_cons_succ]
  refine wpAnyH_take (i := 2) (v := ?_) rfl (by kernel_rfl) (by kernel_rfl) (by kernel_rfl) (fun _ _ _ h => h) (Or.inl ⟨by kernel_rfl, ?_⟩) hS ?_; rotate_left; focus (intro uu hu; clear hu; go_simp; try with_reducible rfl)
  try simp only [Act.put, List.getElem_toArray, List.getElem_cons_succ, List.getElem_cons_zero, List.setIfInBounds_toArray, List.set_cons_zero, List.set_cons_succ]
  refine wpAnyH_take (i := 3) (v := ?_) rfl (by kernel_rfl) (by kernel_rfl) (by kernel_rfl) (fun _ _ _ h => h) (Or.inl ⟨by kernel_rfl, ?_⟩) hS ?_; rotate_left; focus (intro uu hu; clear hu; go_simp; try with_reducible rfl)
  try simp only [Act.put, List.getElem_toArray, List.getElem_cons_succ, List.getElem_cons_zero, List.setIfInBounds_toArray, List.set_cons_zero, List.set_cons_succ]
  refine wpAnyH_take (i := 4) (v := .bool true) rfl (by kernel_rfl) (by kernel_rfl) (by kernel_rfl) (fun _ _ _ h => h) (Or.inl ⟨by kernel_rfl, ?ld⟩) hS ?_; case ld => (intro uu hu; have hu2 := hu; obtain ⟨l0, l1, l2, l3⟩ := hu2; clear hu; go_simp)
  try simp only [Act.put, List.getElem_toArray, List.getElem_cons_succ, List.getElem_cons_zero, List.setIfInBounds_toArray, List.set_cons_zero, List.set_cons_succ]
  refine wpAnyH_take (i := 5) (v := ?_) rfl (by kernel_rfl) (by kernel_rfl) (by kernel_rfl) (fun _ _ _ h => h) (Or.inl ⟨by kernel_rfl, ?_⟩) hS ?_; rotate_left; focus (intro uu hu; clear hu; go_simp; try with_reducible rfl)
  try simp only [Act.put, List.getElem_toArray, List.getElem_cons_succ, List.getElem_cons_zero, List.setIfInBounds_toArray, List.set_cons_zero, List.set_cons_succ]
  refine wpAnyH_take (i := 6) (v := undef) rfl (by kernel_rfl) (by kernel_rfl) (by kernel_rfl) (fun _ _ _ h => h) (Or.inr ⟨by kernel_rfl, rfl⟩) hS ?_
  try simp only [Act.put, List.getElem_toArray, List.getElem_cons_succ, List.getElem_cons_zero, List.setIfInBounds_toArray, List.set_cons_zero, List.set_cons_succ]
  refine wpAnyH_take (i := 7) (v := undef) rfl (by kernel_rfl) (by kernel_rfl) (by kernel_rfl) (fun _ _ _ h => h) (Or.inr ⟨by kernel_rfl, rfl⟩) hS ?_
  try simp only [Act.put, List.getElem_toArray, List.getElem_cons_succ, List.getElem_cons_zero, List.setIfInBounds_toArray, List.set_cons_zero, List.set_cons_succ]
  refine wpAnyH_take (i := 8) (v := undef) rfl (by kernel_rfl) (by kernel_rfl) (by kernel_rfl) (fun _ _ _ h => h) (Or.inr ⟨by kernel_rfl, rfl⟩) hS ?_
  try simp only [Act.put, List.getElem_toArray, List.getElem_cons_succ, List.getElem_cons_zero, List.setIfInBounds_toArray, List.set_cons_zero, List.set_cons_succ]
  refine wpAnyH_take (i := 9) (v := undef) rfl (by kernel_rfl) (by kernel_rfl) (by kernel_rfl) (fun _ _ _ h => h) (Or.inr ⟨by kernel_rfl, rfl⟩) hS ?_
  try simp only [Act.put, List.getElem_toArray, List.getElem_cons_succ, List.getElem_cons_zero, List.setIfInBounds_toArray, List.set_cons_zero, List.set_cons_succ]
  refine wpAnyH_take (i := 10) (v := undef) rfl (by kernel_rfl) (by kernel_rfl) (by kernel_rfl) (fun _ _ _ h => h) (Or.inr ⟨by kernel_rfl, rfl⟩) hS ?_
  try simp only [Act.put, List.getElem_toArray, List.getElem_cons_succ, List.getElem_cons_zero, List.setIfInBounds_toArray, List.set_cons_zero, List.set_cons_succ]
  refine wpAnyH_take (i := 11) (v := ?_) rfl (by kernel_rfl) (by kernel_rfl) (by kernel_rfl) (fun _ _ _ h => h) (Or.inl ⟨by kernel_rfl, ?_⟩) hS ?_; rotate_left; focus (intro uu hu; clear hu; go_simp; try with_reducible rfl)
  try simp only [Act.put, List.getElem_toArray, List.getElem_cons_succ, List.getElem_cons_zero, List.setIfInBounds_toArray, List.set_cons_zero, List.set_cons_succ]
  refine wpAnyH_take (i := 12) (v := ?_) rfl (by kernel_rfl) (by kernel_rfl) (by kernel_rfl) (fun _ _ _ h => h) (Or.inl ⟨by kernel_rfl, ?_⟩) hS ?_; rotate_left; focus (intro uu hu; clear hu; go_simp; try with_reducible rfl)
  try simp only [Act.put, List.getElem_toArray, List.getElem_cons_succ, List.getElem_cons_zero, List.setIfInBounds_toArray, List.set_cons_zero, List.set_cons_succ]
  refine wpAnyH_take (i := 13) (v := undef) rfl (by kernel_rfl) (by kernel_rfl) (by kernel_rfl) (fun _ _ _ h => h) (Or.inr ⟨by kernel_rfl, rfl⟩) hS ?_
  try simp only [Act.put, List.getElem_toArray, List.getElem_cons_succ, List.getElem_cons_zero, List.setIfInBounds_toArray, List.set_cons_zero, List.set_cons_succ]
  refine wpAnyH_take (i := 14) (v := undef) rfl (by kernel_rfl) (by kernel_rfl) (by kernel_rfl) (fun _ _ _ h => h) (Or.inr ⟨by kernel_rfl, rfl⟩) hS ?_
  try simp only [Act.put, List.getElem_toArray, List.getElem_cons_succ, List.getElem_cons_zero, List.setIfInBounds_toArray, List.set_cons_zero, List.set_cons_succ]
  refine wpAnyH_take (i := 15) (v := undef) rfl (by kernel_rfl) (by kernel_rfl) (by kernel_rfl) (fun _ _ _ h => h) (Or.inr ⟨by kernel_rfl, rfl⟩) hS ?_
  try simp only [Act.put, List.getElem_toArray, List.getElem_cons_succ, List.getElem_cons_zero, List.setIfInBounds_toArray, List.set_cons_zero, List.set_cons_succ]
  refine wpAnyH_take (i := 16) (v := undef) rfl (by kernel_rfl) (by kernel_rfl) (by kernel_rfl) (fun _ _ _ h => h) (Or.inr ⟨by kernel_rfl, rfl⟩) hS ?_
  try simp only [Act.put, List.getElem_toArray, List.getElem_cons_succ, List.getElem_cons_zero, List.setIfInBounds_toArray, List.set_cons_zero, List.set_cons_succ]
  refine wpAnyH_take (i := 17) (v := undef) rfl (by kernel_rfl) (by kernel_rfl) (by kernel_rfl) (fun _ _ _ h => h) (Or.inr ⟨by kernel_rfl, rfl⟩) hS ?_
  try simp only [Act.put, List.getElem_toArray, List.getElem_cons_succ, List.getElem_cons_zero, List.setIfInBounds_toArray, List.set_cons_zero, List.set_cons_succ]
  refine wpAnyH_take (i := 18) (v := undef) rfl (by kernel_rfl) (by kernel_rfl) (by kernel_rfl) (fun _ _ _ h => h) (Or.inr ⟨by kernel_rfl, rfl⟩) hS ?_
  try simp only [Act.put, List.getElem_toArray, List.getElem_cons_succ, List.getElem_cons_zero, List.setIfInBounds_toArray, List.set_cons_zero, List.set_cons_succ]
  refine wpAnyH_take (i := 19) (v := undef) rfl (by kernel_rfl) (by kernel_rfl) (by kernel_rfl) (fun _ _ _ h => h) (Or.inr ⟨by kernel_rfl, rfl⟩) hS ?_
  try simp only [Act.put, List.getElem_toArray, List.getElem_cons_succ, List.getElem_cons_zero, List.setIfInBounds_toArray, List.set_cons_zero, List.set_cons_succ]
  refine wpAnyH_take (i := 20) (v := undef) rfl (by kernel_rfl) (by kernel_rfl) (by kernel_rfl) (fun _ _ _ h => h) (Or.inr ⟨by kernel_rfl, rfl⟩) hS ?_
  try simp only [Act.put, List.getElem_toArray, List.getElem_cons_succ, List.getElem_cons_zero, List.setIfInBounds_toArray, List.set_cons_zero, List.set_cons_succ]
  refine wpAnyH_take (i := 21) (v := undef) rfl (by kernel_rfl) (by kernel_rfl) (by kernel_rfl) (fun _ _ _ h => h) (Or.inr ⟨by kernel_rfl, rfl⟩) hS ?_
  try simp only [Act.put, List.getElem_toArray, List.getElem_cons_succ, List.getElem_cons_zero, List.setIfInBounds_toArray, List.set_cons_zero, List.set_cons_succ]
  refine wpAnyH_take (i := 22) (v := undef) rfl (by kernel_rfl) (by kernel_rfl) (by kernel_rfl) (fun _ _ _ h => h) (Or.inr ⟨by kernel_rfl, rfl⟩) hS ?_
  try simp only [Act.put, List.getElem_toArray, List.getElem_cons_succ, List.getElem_cons_zero, List.setIfInBounds_toArray, List.set_cons_zero, List.set_cons_succ]
  refine wpAnyH_take (i := 23) (v := undef) rfl (by kernel_rfl) (by kernel_rfl) (by kernel_rfl) (fun _ _ _ h => h) (Or.inr ⟨by kernel_rfl, rfl⟩) hS ?_
  try simp only [Act.put, List.getElem_toArray, List.getElem_cons_succ, List.getElem_cons_zero, List.setIfInBounds_toArray, List.set_cons_zero, List.set_cons_succ]
  refine wpAnyH_take (i := 24) (v := undef) rfl (by kernel_rfl) (by kernel_rfl) (by kernel_rfl) (fun _ _ _ h => h) (Or.inr ⟨by kernel_rfl, rfl⟩) hS ?_
  try simp only [Act.put, List.getElem_toArray, List.getElem_cons_succ, List.getElem_cons_zero, List.setIfInBounds_toArray, List.set_cons_zero, List.set_cons_succ]
  refine wpAnyH_take (i := 25) (v := undef) rfl (by kernel_rfl) (by kernel_rfl) (by kernel_rfl) (fun _ _ _ h => h) (Or.inr ⟨by kernel_rfl, rfl⟩) hS ?_
  try simp only [Act.put, List.getElem_toArray, List.getElem_cons_succ, List.getElem_cons_zero, List.setIfInBounds_toArray, List.set_cons_zero, List.set_cons_succ]
  refine wpAnyH_take (i := 26) (v := undef) rfl (by kernel_rfl) (by kernel_rfl) (by kernel_rfl) (fun _ _ _ h => h) (Or.inr ⟨by kernel_rfl, rfl⟩) hS ?_
  try simp only [Act.put, List.getElem_toArray, List.getElem_cons_succ, List.getElem_cons_zero, List.setIfInBounds_toArray, List.set_cons_zero, List.set_cons_succ]
  refine wpAnyH_take (i := 27) (v := undef) rfl (by kernel_rfl) (by kernel_rfl) (by kernel_rfl) (fun _ _ _ h => h) (Or.inr ⟨by kernel_rfl, rfl⟩) hS ?_
  try simp only [Act.put, List.getElem_toArray, List.getElem_cons_succ, List.getElem_cons_zero, List.setIfInBounds_toArray, List.set_cons_zero, List.set_cons_succ]
  refine wpAnyH_take (i := 28) (v := ?_) rfl (by kernel_rfl) (by kernel_rfl) (by kernel_rfl) (fun _ _ _ h => h) (Or.inl ⟨by kernel_rfl, ?_⟩) hS ?_; rotate_left; focus (intro uu hu; clear hu; go_simp; try with_reducible rfl)
  try simp only [Act.put, List.getElem_toArray, List.getElem_cons_succ, List.getElem_cons_zero, List.setIfInBounds_toArray, List.set_cons_zero, List.set_cons_succ]
  refine wpAnyH_done (by kernel_rfl) ?_ _
  clear hS
  go_wp2_with fail
  go_ret
  exact ⟨rfl, rfl⟩
set_option maxHeartbeats 1000000 in
theorem specL16In_k (r : Int) (b : ByteArray)  (r2 : Int) (b2 : ByteArray) (e2 k2 : Bool) (wt cm : Int) (s : ByteArray) (fin : Bool) (g : Nat) (w : World) (R : RowIs w g 27 [.int .i64 r, .string b, .bool false, .bool true, .int .i64 r2, .string b2, .bool e2, .bool k2, .int .i64 wt, .int .i64 cm]) :
    Calls Try.prog 40 #[.pointer (some ⟨g, 0, none⟩), .string s, .bool fin] w fun x w' => x = .returned (.bool false) ∧ w' = w.drewN 1 := by
  have hx0 := RowIs.cell (j := 0) R rfl
  have hx1 := RowIs.cell (j := 1) R rfl
  have hx2 := RowIs.cell (j := 2) R rfl
  have hx3 := RowIs.cell (j := 3) R rfl
  go_enter Try.func40, Try.ntmps40
  go_wp2_with fail
  refine wp_region_held_drew (S := (fun u => u.cell? ⟨g, 0, none⟩ = some (.int .i64 r) ∧ u.cell? ⟨g, 1, none⟩ = some (.string b) ∧ u.cell? ⟨g, 2, none⟩ = some (.bool false) ∧ u.cell? ⟨g, 3, none⟩ = some (.bool true))) (by kernel_rfl) (And.intro hx0 (And.intro hx1 (And.intro hx2 hx3))) (fun hS => ?_)
  refine wpAnyH_take (i := 0) (v := ?_) rfl (by kernel_rfl) (by kernel_rfl) (by kernel_rfl) (fun _ _ _ h => h) (Or.inl ⟨by kernel_rfl, ?_⟩) hS ?_; rotate_left; focus (intro uu hu; clear hu; go_simp; try with_reducible rfl)
  try simp only [Act.put, List.getElem_toArray, List.getElem_cons_succ, List.getElem_cons_zero, List.setIfInBounds_toArray, List.set_cons_zero, List.set_cons_succ]
  refine wpAnyH_take (i := 1) (v := ?_) rfl (by kernel_rfl) (by kernel_rfl) (by kernel_rfl) (fun _ _ _ h => h) (Or.inl ⟨by kernel_rfl, ?_⟩) hS ?_; rotate_left; focus (intro uu hu; clear hu; go_simp; try with_reducible rfl)
  try simp only [Act.put, List.getElem_toArray, List.getElem_cons_succ, List.getElem_cons_zero, List.setIfInBounds_toArray, List.set_cons_zero, List.set_cons_succ]
  refine wpAnyH_take (i := 2) (v := ?_) rfl (by kernel_rfl) (by kernel_rfl) (by kernel_rfl) (fun _ _ _ h => h) (Or.inl ⟨by kernel_rfl, ?_⟩) hS ?_; rotate_left; focus (intro uu hu; clear hu; go_simp; try with_reducible rfl)
  try simp only [Act.put, List.getElem_toArray, List.getElem_cons_succ, List.getElem_cons_zero, List.setIfInBounds_toArray, List.set_cons_zero, List.set_cons_succ]
  refine wpAnyH_take (i := 3) (v := ?_) rfl (by kernel_rfl) (by kernel_rfl) (by kernel_rfl) (fun _ _ _ h => h) (Or.inl ⟨by kernel_rfl, ?_⟩) hS ?_; rotate_left; focus (intro uu hu; clear hu; go_simp; try with_reducible rfl)
  try simp only [Act.put, List.getElem_toArray, List.getElem_cons_succ, List.getElem_cons_zero, List.setIfInBounds_toArray, List.set_cons_zero, List.set_cons_succ]
  refine wpAnyH_take (i := 4) (v := .bool false) rfl (by kernel_rfl) (by kernel_rfl) (by kernel_rfl) (fun _ _ _ h => h) (Or.inl ⟨by kernel_rfl, ?ld⟩) hS ?_; case ld => (intro uu hu; have hu2 := hu; obtain ⟨l0, l1, l2, l3⟩ := hu2; clear hu; go_simp)
  try simp only [Act.put, List.getElem_toArray, List.getElem_cons_succ, List.getElem_cons_zero, List.setIfInBounds_toArray, List.set_cons_zero, List.set_cons_succ]
  refine wpAnyH_take (i := 5) (v := ?_) rfl (by kernel_rfl) (by kernel_rfl) (by kernel_rfl) (fun _ _ _ h => h) (Or.inl ⟨by kernel_rfl, ?_⟩) hS ?_; rotate_left; focus (intro uu hu; clear hu; go_simp; try with_reducible rfl)
  try simp only [Act.put, List.getElem_toArray, List.getElem_cons_succ, List.getElem_cons_zero, List.setIfInBounds_toArray, List.set_cons_zero, List.set_cons_succ]
  refine wpAnyH_take (i := 6) (v := ?_) rfl (by kernel_rfl) (by kernel_rfl) (by kernel_rfl) (fun _ _ _ h => h) (Or.inl ⟨by kernel_rfl, ?_⟩) hS ?_; rotate_left; focus (intro uu hu; clear hu; go_simp; try with_reducible rfl)
  try simp only [Act.put, List.getElem_toArray, List.getElem_cons_succ, List.getElem_cons_zero, List.setIfInBounds_toArray, List.set_cons_zero, List.set_cons_succ]
  refine wpAnyH_take (i := 7) (v := ?_) rfl (by kernel_rfl) (by kernel_rfl) (by kernel_rfl) (fun _ _ _ h => h) (Or.inl ⟨by kernel_rfl, ?_⟩) hS ?_; rotate_left; focus (intro uu hu; clear hu; go_simp; try with_reducible rfl)
  try simp only [Act.put, List.getElem_toArray, List.getElem_cons_succ, List.getElem_cons_zero, List.setIfInBounds_toArray, List.set_cons_zero, List.set_cons_succ]
  refine wpAnyH_take (i := 8) (v := ?_) rfl (by kernel_rfl) (by kernel_rfl) (by kernel_rfl) (fun _ _ _ h => h) (Or.inl ⟨by kernel_rfl, ?_⟩) hS ?_; rotate_left; focus (intro uu hu; clear hu; go_simp; try with_reducible rfl)
  try simp only [Act.put, List.getElem_toArray, List.getElem_cons_succ, List.getElem_cons_zero, List.setIfInBounds_toArray, List.set_cons_zero, List.set_cons_succ]
  refine wpAnyH_take (i := 9) (v := ?_) rfl (by kernel_rfl) (by kernel_rfl) (by kernel_rfl) (fun _ _ _ h => h) (Or.inl ⟨by kernel_rfl, ?_⟩) hS ?_; rotate_left; focus (intro uu hu; clear hu; go_simp; try with_reducible rfl)
  try simp only [Act.put, List.getElem_toArray, List.getElem_cons_succ, List.getElem_cons_zero, List.setIfInBounds_toArray, List.set_cons_zero, List.set_cons_succ]
  refine wpAnyH_take (i := 10) (v := .bool true) rfl (by kernel_rfl) (by kernel_rfl) (by kernel_rfl) (fun _ _ _ h => h) (Or.inl ⟨by kernel_rfl, ?ld⟩) hS ?_; case ld => (intro uu hu; have hu2 := hu; obtain ⟨l0, l1, l2, l3⟩ := hu2; clear hu; go_simp)
  try simp only [Act.put, List.getElem_toArray, List.getElem_cons_succ, List.getElem_cons_zero, List.setIfInBounds_toArray, List.set_cons_zero, List.set_cons_succ]
  refine wpAnyH_take (i := 11) (v := ?_) rfl (by kernel_rfl) (by kernel_rfl) (by kernel_rfl) (fun _ _ _ h => h) (Or.inl ⟨by kernel_rfl, ?_⟩) hS ?_; rotate_left; focus (intro uu hu; clear hu; go_simp; try with_reducible rfl)
  try simp only [Act.put, List.getElem_toArray, List.getElem_cons_succ, List.getElem_cons_zero, List.setIfInBounds_toArray, List.set_cons_zero, List.set_cons_succ]
  refine wpAnyH_take (i := 12) (v := ?_) rfl (by kernel_rfl) (by kernel_rfl) (by kernel_rfl) (fun _ _ _ h => h) (Or.inl ⟨by kernel_rfl, ?_⟩) hS ?_; rotate_left; focus (intro uu hu; clear hu; go_simp; try with_reducible rfl)
  try simp only [Act.put, List.getElem_toArray, List.getElem_cons_succ, List.getElem_cons_zero, List.setIfInBounds_toArray, List.set_cons_zero, List.set_cons_succ]
  refine wpAnyH_take (i := 13) (v := undef) rfl (by kernel_rfl) (by kernel_rfl) (by kernel_rfl) (fun _ _ _ h => h) (Or.inr ⟨by kernel_rfl, rfl⟩) hS ?_
  try simp only [Act.put, List.getElem_toArray, List.getElem_cons_succ, List.getElem_cons_zero, List.setIfInBounds_toArray, List.set_cons_zero, List.set_cons_succ]
  refine wpAnyH_take (i := 14) (v := undef) rfl (by kernel_rfl) (by kernel_rfl) (by kernel_rfl) (fun _ _ _ h => h) (Or.inr ⟨by kernel_rfl, rfl⟩) hS ?_
  try simp only [Act.put, List.getElem_toArray, List.getElem_cons_succ, List.getElem_cons_zero, List.setIfInBounds_toArray, List.set_cons_zero, List.set_cons_succ]
  refine wpAnyH_take (i := 15) (v := undef) rfl (by kernel_rfl) (by kernel_rfl) (by kernel_rfl) (fun _ _ _ h => h) (Or.inr ⟨by kernel_rfl, rfl⟩) hS ?_
  try simp only [Act.put, List.getElem_toArray, List.getElem_cons_succ, List.getElem_cons_zero, List.setIfInBounds_toArray, List.set_cons_zero, List.set_cons_succ]
  refine wpAnyH_take (i := 16) (v := undef) rfl (by kernel_rfl) (by kernel_rfl) (by kernel_rfl) (fun _ _ _ h => h) (Or.inr ⟨by kernel_rfl, rfl⟩) hS ?_
  try simp only [Act.put, List.getElem_toArray, List.getElem_cons_succ, List.getElem_cons_zero, List.setIfInBounds_toArray, List.set_cons_zero, List.set_cons_succ]
  refine wpAnyH_take (i := 17) (v := undef) rfl (by kernel_rfl) (by kernel_rfl) (by kernel_rfl) (fun _ _ _ h => h) (Or.inr ⟨by kernel_rfl, rfl⟩) hS ?_
  try simp only [Act.put, List.getElem_toArray, List.getElem_cons_succ, List.getElem_cons_zero, List.setIfInBounds_toArray, List.set_cons_zero, List.set_cons_succ]
  refine wpAnyH_take (i := 18) (v := undef) rfl (by kernel_rfl) (by kernel_rfl) (by kernel_rfl) (fun _ _ _ h => h) (Or.inr ⟨by kernel_rfl, rfl⟩) hS ?_
  try simp only [Act.put, List.getElem_toArray, List.getElem_cons_succ, List.getElem_cons_zero, List.setIfInBounds_toArray, List.set_cons_zero, List.set_cons_succ]
  refine wpAnyH_take (i := 19) (v := undef) rfl (by kernel_rfl) (by kernel_rfl) (by kernel_rfl) (fun _ _ _ h => h) (Or.inr ⟨by kernel_rfl, rfl⟩) hS ?_
  try simp only [Act.put, List.getElem_toArray, List.getElem_cons_succ, List.getElem_cons_zero, List.setIfInBounds_toArray, List.set_cons_zero, List.set_cons_succ]
  refine wpAnyH_take (i := 20) (v := undef) rfl (by kernel_rfl) (by kernel_rfl) (by kernel_rfl) (fun _ _ _ h => h) (Or.inr ⟨by kernel_rfl, rfl⟩) hS ?_
  try simp only [Act.put, List.getElem_toArray, List.getElem_cons_succ, List.getElem_cons_zero, List.setIfInBounds_toArray, List.set_cons_zero, List.set_cons_succ]
  refine wpAnyH_take (i := 21) (v := undef) rfl (by kernel_rfl) (by kernel_rfl) (by kernel_rfl) (fun _ _ _ h => h) (Or.inr ⟨by kernel_rfl, rfl⟩) hS ?_
  try simp only [Act.put, List.getElem_toArray, List.getElem_cons_succ, List.getElem_cons_zero, List.setIfInBounds_toArray, List.set_cons_zero, List.set_cons_succ]
  refine wpAnyH_take (i := 22) (v := undef) rfl (by kernel_rfl) (by kernel_rfl) (by kernel_rfl) (fun _ _ _ h => h) (Or.inr ⟨by kernel_rfl, rfl⟩) hS ?_
  try simp only [Act.put, List.getElem_toArray, List.getElem_cons_succ, List.getElem_cons_zero, List.setIfInBounds_toArray, List.set_cons_zero, List.set_cons_succ]
  refine wpAnyH_take (i := 23) (v := undef) rfl (by kernel_rfl) (by kernel_rfl) (by kernel_rfl) (fun _ _ _ h => h) (Or.inr ⟨by kernel_rfl, rfl⟩) hS ?_
  try simp only [Act.put, List.getElem_toArray, List.getElem_cons_succ, List.getElem_cons_zero, List.setIfInBounds_toArray, List.set_cons_zero, List.set_cons_succ]
  refine wpAnyH_take (i := 24) (v := undef) rfl (by kernel_rfl) (by kernel_rfl) (by kernel_rfl) (fun _ _ _ h => h) (Or.inr ⟨by kernel_rfl, rfl⟩) hS ?_
  try simp only [Act.put, List.getElem_toArray, List.getElem_cons_succ, List.getElem_cons_zero, List.setIfInBounds_toArray, List.set_cons_zero, List.set_cons_succ]
  refine wpAnyH_take (i := 25) (v := undef) rfl (by kernel_rfl) (by kernel_rfl) (by kernel_rfl) (fun _ _ _ h => h) (Or.inr ⟨by kernel_rfl, rfl⟩) hS ?_
  try simp only [Act.put, List.getElem_toArray, List.getElem_cons_succ, List.getElem_cons_zero, List.setIfInBounds_toArray, List.set_cons_zero, List.set_cons_succ]
  refine wpAnyH_take (i := 26) (v := undef) rfl (by kernel_rfl) (by kernel_rfl) (by kernel_rfl) (fun _ _ _ h => h) (Or.inr ⟨by kernel_rfl, rfl⟩) hS ?_
  try simp only [Act.put, List.getElem_toArray, List.getElem_cons_succ, List.getElem_cons_zero, List.setIfInBounds_toArray, List.set_cons_zero, List.set_cons_succ]
  refine wpAnyH_take (i := 27) (v := undef) rfl (by kernel_rfl) (by kernel_rfl) (by kernel_rfl) (fun _ _ _ h => h) (Or.inr ⟨by kernel_rfl, rfl⟩) hS ?_
  try simp only [Act.put, List.getElem_toArray, List.getElem_cons_succ, List.getElem_cons_zero, List.setIfInBounds_toArray, List.set_cons_zero, List.set_cons_succ]
  refine wpAnyH_take (i := 28) (v := ?_) rfl (by kernel_rfl) (by kernel_rfl) (by kernel_rfl) (fun _ _ _ h => h) (Or.inl ⟨by kernel_rfl, ?_⟩) hS ?_; rotate_left; focus (intro uu hu; clear hu; go_simp; try with_reducible rfl)
  try simp only [Act.put, List.getElem_toArray, List.getElem_cons_succ, List.getElem_cons_zero, List.setIfInBounds_toArray, List.set_cons_zero, List.set_cons_succ]
  refine wpAnyH_done (by kernel_rfl) ?_ _
  clear hS
  go_wp2_with fail
  go_ret
  exact ⟨rfl, rfl⟩
set_option maxHeartbeats 1000000 in
theorem specL16In_room (r : Int) (b : ByteArray)  (r2 : Int) (b2 : ByteArray) (e2 k2 : Bool) (wt cm : Int) (s : ByteArray) (fin : Bool) (g : Nat) (w : World) (R : RowIs w g 27 [.int .i64 r, .string b, .bool false, .bool false, .int .i64 r2, .string b2, .bool e2, .bool k2, .int .i64 wt, .int .i64 cm]) (hb1 : b.size ≤ 2000) (hr1 : r ≤ 2000) (hr0 : 1 ≤ r) (hs : s.size ≤ maxLen) (hno : r - b.size < s.size) :
    Calls Try.prog 40 #[.pointer (some ⟨g, 0, none⟩), .string s, .bool fin] w fun x w' => x = .returned (.bool false) ∧ w' = w.drewN 1 := by
  have hx0 := RowIs.cell (j := 0) R rfl
  have hx1 := RowIs.cell (j := 1) R rfl
  have hx2 := RowIs.cell (j := 2) R rfl
  have hx3 := RowIs.cell (j := 3) R rfl
  unfold maxLen at hs
  have e1 : IntKind.i64.wrap (r - (b.size : Int)) = r - b.size := by rw [IntKind.wrap_i64]; omega
  have hgt : (s.size : Int) > r - b.size := by omega
  go_enter Try.func40, Try.ntmps40
  go_wp2_with fail
  refine wp_region_held_drew (S := (fun u => u.cell? ⟨g, 0, none⟩ = some (.int .i64 r) ∧ u.cell? ⟨g, 1, none⟩ = some (.string b) ∧ u.cell? ⟨g, 2, none⟩ = some (.bool false) ∧ u.cell? ⟨g, 3, none⟩ = some (.bool false))) (by kernel_rfl) (And.intro hx0 (And.intro hx1 (And.intro hx2 hx3))) (fun hS => ?_)
  refine wpAnyH_take (i := 0) (v := ?_) rfl (by kernel_rfl) (by kernel_rfl) (by kernel_rfl) (fun _ _ _ h => h) (Or.inl ⟨by kernel_rfl, ?_⟩) hS ?_; rotate_left; focus (intro uu hu; clear hu; go_simp; try with_reducible rfl)
  try simp only [Act.put, List.getElem_toArray, List.getElem_cons_succ, List.getElem_cons_zero, List.setIfInBounds_toArray, List.set_cons_zero, List.set_cons_succ]
  refine wpAnyH_take (i := 1) (v := ?_) rfl (by kernel_rfl) (by kernel_rfl) (by kernel_rfl) (fun _ _ _ h => h) (Or.inl ⟨by kernel_rfl, ?_⟩) hS ?_; rotate_left; focus (intro uu hu; clear hu; go_simp; try with_reducible rfl)
  try simp only [Act.put, List.getElem_toArray, List.getElem_cons_succ, List.getElem_cons_zero, List.setIfInBounds_toArray, List.set_cons_zero, List.set_cons_succ]
  refine wpAnyH_take (i := 2) (v := ?_) rfl (by kernel_rfl) (by kernel_rfl) (by kernel_rfl) (fun _ _ _ h => h) (Or.inl ⟨by kernel_rfl, ?_⟩) hS ?_; rotate_left; focus (intro uu hu; clear hu; go_simp; try with_reducible rfl)
  try simp only [Act.put, List.getElem_toArray, List.getElem_cons_succ, List.getElem_cons_zero, List.setIfInBounds_toArray, List.set_cons_zero, List.set_cons_succ]
  refine wpAnyH_take (i := 3) (v := ?_) rfl (by kernel_rfl) (by kernel_rfl) (by kernel_rfl) (fun _ _ _ h => h) (Or.inl ⟨by kernel_rfl, ?_⟩) hS ?_; rotate_left; focus (intro uu hu; clear hu; go_simp; try with_reducible rfl)
  try simp only [Act.put, List.getElem_toArray, List.getElem_cons_succ, List.getElem_cons_zero, List.setIfInBounds_toArray, List.set_cons_zero, List.set_cons_succ]
  refine wpAnyH_take (i := 4) (v := .bool false) rfl (by kernel_rfl) (by kernel_rfl) (by kernel_rfl) (fun _ _ _ h => h) (Or.inl ⟨by kernel_rfl, ?ld⟩) hS ?_; case ld => (intro uu hu; have hu2 := hu; obtain ⟨l0, l1, l2, l3⟩ := hu2; clear hu; go_simp)
  try simp only [Act.put, List.getElem_toArray, List.getElem_cons_succ, List.getElem_cons_zero, List.setIfInBounds_toArray, List.set_cons_zero, List.set_cons_succ]
  refine wpAnyH_take (i := 5) (v := ?_) rfl (by kernel_rfl) (by kernel_rfl) (by kernel_rfl) (fun _ _ _ h => h) (Or.inl ⟨by kernel_rfl, ?_⟩) hS ?_; rotate_left; focus (intro uu hu; clear hu; go_simp; try with_reducible rfl)
  try simp only [Act.put, List.getElem_toArray, List.getElem_cons_succ, List.getElem_cons_zero, List.setIfInBounds_toArray, List.set_cons_zero, List.set_cons_succ]
  refine wpAnyH_take (i := 6) (v := ?_) rfl (by kernel_rfl) (by kernel_rfl) (by kernel_rfl) (fun _ _ _ h => h) (Or.inl ⟨by kernel_rfl, ?_⟩) hS ?_; rotate_left; focus (intro uu hu; clear hu; go_simp; try with_reducible rfl)
  try simp only [Act.put, List.getElem_toArray, List.getElem_cons_succ, List.getElem_cons_zero, List.setIfInBounds_toArray, List.set_cons_zero, List.set_cons_succ]
  refine wpAnyH_take (i := 7) (v := ?_) rfl (by kernel_rfl) (by kernel_rfl) (by kernel_rfl) (fun _ _ _ h => h) (Or.inl ⟨by kernel_rfl, ?_⟩) hS ?_; rotate_left; focus (intro uu hu; clear hu; go_simp; try with_reducible rfl)
  try simp only [Act.put, List.getElem_toArray, List.getElem_cons_succ, List.getElem_cons_zero, List.setIfInBounds_toArray, List.set_cons_zero, List.set_cons_succ]
  refine wpAnyH_take (i := 8) (v := ?_) rfl (by kernel_rfl) (by kernel_rfl) (by kernel_rfl) (fun _ _ _ h => h) (Or.inl ⟨by kernel_rfl, ?_⟩) hS ?_; rotate_left; focus (intro uu hu; clear hu; go_simp; try with_reducible rfl)
  try simp only [Act.put, List.getElem_toArray, List.getElem_cons_succ, List.getElem_cons_zero, List.setIfInBounds_toArray, List.set_cons_zero, List.set_cons_succ]
  refine wpAnyH_take (i := 9) (v := ?_) rfl (by kernel_rfl) (by kernel_rfl) (by kernel_rfl) (fun _ _ _ h => h) (Or.inl ⟨by kernel_rfl, ?_⟩) hS ?_; rotate_left; focus (intro uu hu; clear hu; go_simp; try with_reducible rfl)
  try simp only [Act.put, List.getElem_toArray, List.getElem_cons_succ, List.getElem_cons_zero, List.setIfInBounds_toArray, List.set_cons_zero, List.set_cons_succ]
  refine wpAnyH_take (i := 10) (v := .bool false) rfl (by kernel_rfl) (by kernel_rfl) (by kernel_rfl) (fun _ _ _ h => h) (Or.inl ⟨by kernel_rfl, ?ld⟩) hS ?_; case ld => (intro uu hu; have hu2 := hu; obtain ⟨l0, l1, l2, l3⟩ := hu2; clear hu; go_simp)
  try simp only [Act.put, List.getElem_toArray, List.getElem_cons_succ, List.getElem_cons_zero, List.setIfInBounds_toArray, List.set_cons_zero, List.set_cons_succ]
  refine wpAnyH_take (i := 11) (v := ?_) rfl (by kernel_rfl) (by kernel_rfl) (by kernel_rfl) (fun _ _ _ h => h) (Or.inl ⟨by kernel_rfl, ?_⟩) hS ?_; rotate_left; focus (intro uu hu; clear hu; go_simp; try with_reducible rfl)
  try simp only [Act.put, List.getElem_toArray, List.getElem_cons_succ, List.getElem_cons_zero, List.setIfInBounds_toArray, List.set_cons_zero, List.set_cons_succ]
  refine wpAnyH_take (i := 12) (v := ?_) rfl (by kernel_rfl) (by kernel_rfl) (by kernel_rfl) (fun _ _ _ h => h) (Or.inl ⟨by kernel_rfl, ?_⟩) hS ?_; rotate_left; focus (intro uu hu; clear hu; go_simp; try with_reducible rfl)
  try simp only [Act.put, List.getElem_toArray, List.getElem_cons_succ, List.getElem_cons_zero, List.setIfInBounds_toArray, List.set_cons_zero, List.set_cons_succ]
  refine wpAnyH_take (i := 13) (v := ?_) rfl (by kernel_rfl) (by kernel_rfl) (by kernel_rfl) (fun _ _ _ h => h) (Or.inl ⟨by kernel_rfl, ?_⟩) hS ?_; rotate_left; focus (intro uu hu; clear hu; go_simp; try with_reducible rfl)
  try simp only [Act.put, List.getElem_toArray, List.getElem_cons_succ, List.getElem_cons_zero, List.setIfInBounds_toArray, List.set_cons_zero, List.set_cons_succ]
  refine wpAnyH_take (i := 14) (v := ?_) rfl (by kernel_rfl) (by kernel_rfl) (by kernel_rfl) (fun _ _ _ h => h) (Or.inl ⟨by kernel_rfl, ?_⟩) hS ?_; rotate_left; focus (intro uu hu; clear hu; go_simp; try with_reducible rfl)
  try simp only [Act.put, List.getElem_toArray, List.getElem_cons_succ, List.getElem_cons_zero, List.setIfInBounds_toArray, List.set_cons_zero, List.set_cons_succ]
  refine wpAnyH_take (i := 15) (v := ?_) rfl (by kernel_rfl) (by kernel_rfl) (by kernel_rfl) (fun _ _ _ h => h) (Or.inl ⟨by kernel_rfl, ?_⟩) hS ?_; rotate_left; focus (intro uu hu; clear hu; go_simp; try with_reducible rfl)
  try simp only [Act.put, List.getElem_toArray, List.getElem_cons_succ, List.getElem_cons_zero, List.setIfInBounds_toArray, List.set_cons_zero, List.set_cons_succ]
  refine wpAnyH_take (i := 16) (v := ?_) rfl (by kernel_rfl) (by kernel_rfl) (by kernel_rfl) (fun _ _ _ h => h) (Or.inl ⟨by kernel_rfl, ?_⟩) hS ?_; rotate_left; focus (intro uu hu; clear hu; go_simp; try with_reducible rfl)
  try simp only [Act.put, List.getElem_toArray, List.getElem_cons_succ, List.getElem_cons_zero, List.setIfInBounds_toArray, List.set_cons_zero, List.set_cons_succ]
  refine wpAnyH_take (i := 17) (v := ?_) rfl (by kernel_rfl) (by kernel_rfl) (by kernel_rfl) (fun _ _ _ h => h) (Or.inl ⟨by kernel_rfl, ?_⟩) hS ?_; rotate_left; focus (intro uu hu; clear hu; go_simp; try with_reducible rfl)
  try simp only [Act.put, List.getElem_toArray, List.getElem_cons_succ, List.getElem_cons_zero, List.setIfInBounds_toArray, List.set_cons_zero, List.set_cons_succ]
  refine wpAnyH_take (i := 18) (v := ?_) rfl (by kernel_rfl) (by kernel_rfl) (by kernel_rfl) (fun _ _ _ h => h) (Or.inl ⟨by kernel_rfl, ?_⟩) hS ?_; rotate_left; focus (intro uu hu; clear hu; go_simp; try with_reducible rfl)
  try simp only [Act.put, List.getElem_toArray, List.getElem_cons_succ, List.getElem_cons_zero, List.setIfInBounds_toArray, List.set_cons_zero, List.set_cons_succ]
  refine wpAnyH_take (i := 19) (v := .int .i64 r) rfl (by kernel_rfl) (by kernel_rfl) (by kernel_rfl) (fun _ _ _ h => h) (Or.inl ⟨by kernel_rfl, ?ld⟩) hS ?_; case ld => (intro uu hu; have hu2 := hu; obtain ⟨l0, l1, l2, l3⟩ := hu2; clear hu; go_simp)
  try simp only [Act.put, List.getElem_toArray, List.getElem_cons_succ, List.getElem_cons_zero, List.setIfInBounds_toArray, List.set_cons_zero, List.set_cons_succ]
  refine wpAnyH_take (i := 20) (v := ?_) rfl (by kernel_rfl) (by kernel_rfl) (by kernel_rfl) (fun _ _ _ h => h) (Or.inl ⟨by kernel_rfl, ?_⟩) hS ?_; rotate_left; focus (intro uu hu; clear hu; go_simp; try with_reducible rfl)
  try simp only [Act.put, List.getElem_toArray, List.getElem_cons_succ, List.getElem_cons_zero, List.setIfInBounds_toArray, List.set_cons_zero, List.set_cons_succ]
  refine wpAnyH_take (i := 21) (v := ?_) rfl (by kernel_rfl) (by kernel_rfl) (by kernel_rfl) (fun _ _ _ h => h) (Or.inl ⟨by kernel_rfl, ?_⟩) hS ?_; rotate_left; focus (intro uu hu; clear hu; go_simp; try with_reducible rfl)
  try simp only [Act.put, List.getElem_toArray, List.getElem_cons_succ, List.getElem_cons_zero, List.setIfInBounds_toArray, List.set_cons_zero, List.set_cons_succ]
  refine wpAnyH_take (i := 22) (v := ?_) rfl (by kernel_rfl) (by kernel_rfl) (by kernel_rfl) (fun _ _ _ h => h) (Or.inl ⟨by kernel_rfl, ?_⟩) hS ?_; rotate_left; focus (intro uu hu; clear hu; go_simp; try with_reducible rfl)
  try simp only [Act.put, List.getElem_toArray, List.getElem_cons_succ, List.getElem_cons_zero, List.setIfInBounds_toArray, List.set_cons_zero, List.set_cons_succ]
  refine wpAnyH_take (i := 23) (v := ?_) rfl (by kernel_rfl) (by kernel_rfl) (by kernel_rfl) (fun _ _ _ h => h) (Or.inl ⟨by kernel_rfl, ?_⟩) hS ?_; rotate_left; focus (intro uu hu; clear hu; go_simp; try with_reducible rfl)
  try simp only [Act.put, List.getElem_toArray, List.getElem_cons_succ, List.getElem_cons_zero, List.setIfInBounds_toArray, List.set_cons_zero, List.set_cons_succ]
  refine wpAnyH_take (i := 24) (v := .string b) rfl (by kernel_rfl) (by kernel_rfl) (by kernel_rfl) (fun _ _ _ h => h) (Or.inl ⟨by kernel_rfl, ?ld⟩) hS ?_; case ld => (intro uu hu; have hu2 := hu; obtain ⟨l0, l1, l2, l3⟩ := hu2; clear hu; go_simp)
  try simp only [Act.put, List.getElem_toArray, List.getElem_cons_succ, List.getElem_cons_zero, List.setIfInBounds_toArray, List.set_cons_zero, List.set_cons_succ]
  refine wpAnyH_take (i := 25) (v := ?_) rfl (by kernel_rfl) (by kernel_rfl) (by kernel_rfl) (fun _ _ _ h => h) (Or.inl ⟨by kernel_rfl, ?_⟩) hS ?_; rotate_left; focus (intro uu hu; clear hu; go_simp; try with_reducible rfl)
  try simp only [Act.put, List.getElem_toArray, List.getElem_cons_succ, List.getElem_cons_zero, List.setIfInBounds_toArray, List.set_cons_zero, List.set_cons_succ]
  refine wpAnyH_take (i := 26) (v := ?_) rfl (by kernel_rfl) (by kernel_rfl) (by kernel_rfl) (fun _ _ _ h => h) (Or.inl ⟨by kernel_rfl, ?_⟩) hS ?_; rotate_left; focus (intro uu hu; clear hu; go_simp; try with_reducible rfl)
  try simp only [Act.put, List.getElem_toArray, List.getElem_cons_succ, List.getElem_cons_zero, List.setIfInBounds_toArray, List.set_cons_zero, List.set_cons_succ]
  refine wpAnyH_take (i := 27) (v := .bool true) rfl (by kernel_rfl) (by kernel_rfl) (by kernel_rfl) (fun _ _ _ h => h) (Or.inl ⟨by kernel_rfl, ?ld⟩) hS ?_; case ld => (intro uu hu; clear hu; go_simp)
  try simp only [Act.put, List.getElem_toArray, List.getElem_cons_succ, List.getElem_cons_zero, List.setIfInBounds_toArray, List.set_cons_zero, List.set_cons_succ]
  refine wpAnyH_take (i := 28) (v := ?_) rfl (by kernel_rfl) (by kernel_rfl) (by kernel_rfl) (fun _ _ _ h => h) (Or.inl ⟨by kernel_rfl, ?_⟩) hS ?_; rotate_left; focus (intro uu hu; clear hu; go_simp; try with_reducible rfl)
  try simp only [Act.put, List.getElem_toArray, List.getElem_cons_succ, List.getElem_cons_zero, List.setIfInBounds_toArray, List.set_cons_zero, List.set_cons_succ]
  refine wpAnyH_done (by kernel_rfl) ?_ _
  clear hS
  go_wp2_with fail
  go_ret
  exact ⟨rfl, rfl⟩
set_option maxHeartbeats 1000000 in
theorem specL16In_yes (r : Int) (b : ByteArray)  (r2 : Int) (b2 : ByteArray) (e2 k2 : Bool) (wt cm : Int) (s : ByteArray) (fin : Bool) (g : Nat) (w : World) (R : RowIs w g 27 [.int .i64 r, .string b, .bool false, .bool false, .int .i64 r2, .string b2, .bool e2, .bool k2, .int .i64 wt, .int .i64 cm]) (hr1 : r ≤ 2000) (hb1 : (b.size : Int) ≤ r) (hs : s.size ≤ 1048576) (hyes : (s.size : Int) ≤ r - b.size) :
    Calls Try.prog 40 #[.pointer (some ⟨g, 0, none⟩), .string s, .bool fin] w fun x w' => x = .returned (.bool true) ∧ RowIs w' g 27 [.int .i64 r, .string (b ++ s), .bool fin, .bool false, .int .i64 r2, .string b2, .bool e2, .bool k2, .int .i64 wt, .int .i64 cm] ∧ Turn g (g + 1) w w' := by
  have hx0 := RowIs.cell (j := 0) R rfl
  have hx1 := RowIs.cell (j := 1) R rfl
  have hx2 := RowIs.cell (j := 2) R rfl
  have hx3 := RowIs.cell (j := 3) R rfl
  have e1 : IntKind.i64.wrap (r - (b.size : Int)) = r - b.size := by rw [IntKind.wrap_i64]; omega
  have hgt : ¬ (s.size : Int) > r - b.size := by omega
  go_enter Try.func40, Try.ntmps40
  go_wp2_with fail
  refine wp_region_held_drew (S := (fun u => u.cell? ⟨g, 0, none⟩ = some (.int .i64 r) ∧ u.cell? ⟨g, 1, none⟩ = some (.string b) ∧ u.cell? ⟨g, 2, none⟩ = some (.bool false) ∧ u.cell? ⟨g, 3, none⟩ = some (.bool false))) (by kernel_rfl) (And.intro hx0 (And.intro hx1 (And.intro hx2 hx3))) (fun hS => ?_)
  refine wpAnyH_take (i := 0) (v := ?_) rfl (by kernel_rfl) (by kernel_rfl) (by kernel_rfl) (fun _ _ _ h => h) (Or.inl ⟨by kernel_rfl, ?_⟩) hS ?_; rotate_left; focus (intro uu hu; clear hu; go_simp; try with_reducible rfl)
  try simp only [Act.put, List.getElem_toArray, List.getElem_cons_succ, List.getElem_cons_zero, List.setIfInBounds_toArray, List.set_cons_zero, List.set_cons_succ]
  refine wpAnyH_take (i := 1) (v := ?_) rfl (by kernel_rfl) (by kernel_rfl) (by kernel_rfl) (fun _ _ _ h => h) (Or.inl ⟨by kernel_rfl, ?_⟩) hS ?_; rotate_left; focus (intro uu hu; clear hu; go_simp; try with_reducible rfl)
  try simp only [Act.put, List.getElem_toArray, List.getElem_cons_succ, List.getElem_cons_zero, List.setIfInBounds_toArray, List.set_cons_zero, List.set_cons_succ]
  refine wpAnyH_take (i := 2) (v := ?_) rfl (by kernel_rfl) (by kernel_rfl) (by kernel_rfl) (fun _ _ _ h => h) (Or.inl ⟨by kernel_rfl, ?_⟩) hS ?_; rotate_left; focus (intro uu hu; clear hu; go_simp; try with_reducible rfl)
  try simp only [Act.put, List.getElem_toArray, List.getElem_cons_succ, List.getElem_cons_zero, List.setIfInBounds_toArray, List.set_cons_zero, List.set_cons_succ]
  refine wpAnyH_take (i := 3) (v := ?_) rfl (by kernel_rfl) (by kernel_rfl) (by kernel_rfl) (fun _ _ _ h => h) (Or.inl ⟨by kernel_rfl, ?_⟩) hS ?_; rotate_left; focus (intro uu hu; clear hu; go_simp; try with_reducible rfl)
  try simp only [Act.put, List.getElem_toArray, List.getElem_cons_succ, List.getElem_cons_zero, List.setIfInBounds_toArray, List.set_cons_zero, List.set_cons_succ]
  refine wpAnyH_take (i := 4) (v := .bool false) rfl (by kernel_rfl) (by kernel_rfl) (by kernel_rfl) (fun _ _ _ h => h) (Or.inl ⟨by kernel_rfl, ?ld⟩) hS ?_; case ld => (intro uu hu; have hu2 := hu; obtain ⟨l0, l1, l2, l3⟩ := hu2; clear hu; go_simp)
  try simp only [Act.put, List.getElem_toArray, List.getElem_cons_succ, List.getElem_cons_zero, List.setIfInBounds_toArray, List.set_cons_zero, List.set_cons_succ]
  refine wpAnyH_take (i := 5) (v := ?_) rfl (by kernel_rfl) (by kernel_rfl) (by kernel_rfl) (fun _ _ _ h => h) (Or.inl ⟨by kernel_rfl, ?_⟩) hS ?_; rotate_left; focus (intro uu hu; clear hu; go_simp; try with_reducible rfl)
  try simp only [Act.put, List.getElem_toArray, List.getElem_cons_succ, List.getElem_cons_zero, List.setIfInBounds_toArray, List.set_cons_zero, List.set_cons_succ]
  refine wpAnyH_take (i := 6) (v := ?_) rfl (by kernel_rfl) (by kernel_rfl) (by kernel_rfl) (fun _ _ _ h => h) (Or.inl ⟨by kernel_rfl, ?_⟩) hS ?_; rotate_left; focus (intro uu hu; clear hu; go_simp; try with_reducible rfl)
  try simp only [Act.put, List.getElem_toArray, List.getElem_cons_succ, List.getElem_cons_zero, List.setIfInBounds_toArray, List.set_cons_zero, List.set_cons_succ]
  refine wpAnyH_take (i := 7) (v := ?_) rfl (by kernel_rfl) (by kernel_rfl) (by kernel_rfl) (fun _ _ _ h => h) (Or.inl ⟨by kernel_rfl, ?_⟩) hS ?_; rotate_left; focus (intro uu hu; clear hu; go_simp; try with_reducible rfl)
  try simp only [Act.put, List.getElem_toArray, List.getElem_cons_succ, List.getElem_cons_zero, List.setIfInBounds_toArray, List.set_cons_zero, List.set_cons_succ]
  refine wpAnyH_take (i := 8) (v := ?_) rfl (by kernel_rfl) (by kernel_rfl) (by kernel_rfl) (fun _ _ _ h => h) (Or.inl ⟨by kernel_rfl, ?_⟩) hS ?_; rotate_left; focus (intro uu hu; clear hu; go_simp; try with_reducible rfl)
  try simp only [Act.put, List.getElem_toArray, List.getElem_cons_succ, List.getElem_cons_zero, List.setIfInBounds_toArray, List.set_cons_zero, List.set_cons_succ]
  refine wpAnyH_take (i := 9) (v := ?_) rfl (by kernel_rfl) (by kernel_rfl) (by kernel_rfl) (fun _ _ _ h => h) (Or.inl ⟨by kernel_rfl, ?_⟩) hS ?_; rotate_left; focus (intro uu hu; clear hu; go_simp; try with_reducible rfl)
  try simp only [Act.put, List.getElem_toArray, List.getElem_cons_succ, List.getElem_cons_zero, List.setIfInBounds_toArray, List.set_cons_zero, List.set_cons_succ]
  refine wpAnyH_take (i := 10) (v := .bool false) rfl (by kernel_rfl) (by kernel_rfl) (by kernel_rfl) (fun _ _ _ h => h) (Or.inl ⟨by kernel_rfl, ?ld⟩) hS ?_; case ld => (intro uu hu; have hu2 := hu; obtain ⟨l0, l1, l2, l3⟩ := hu2; clear hu; go_simp)
  try simp only [Act.put, List.getElem_toArray, List.getElem_cons_succ, List.getElem_cons_zero, List.setIfInBounds_toArray, List.set_cons_zero, List.set_cons_succ]
  refine wpAnyH_take (i := 11) (v := ?_) rfl (by kernel_rfl) (by kernel_rfl) (by kernel_rfl) (fun _ _ _ h => h) (Or.inl ⟨by kernel_rfl, ?_⟩) hS ?_; rotate_left; focus (intro uu hu; clear hu; go_simp; try with_reducible rfl)
  try simp only [Act.put, List.getElem_toArray, List.getElem_cons_succ, List.getElem_cons_zero, List.setIfInBounds_toArray, List.set_cons_zero, List.set_cons_succ]
  refine wpAnyH_take (i := 12) (v := ?_) rfl (by kernel_rfl) (by kernel_rfl) (by kernel_rfl) (fun _ _ _ h => h) (Or.inl ⟨by kernel_rfl, ?_⟩) hS ?_; rotate_left; focus (intro uu hu; clear hu; go_simp; try with_reducible rfl)
  try simp only [Act.put, List.getElem_toArray, List.getElem_cons_succ, List.getElem_cons_zero, List.setIfInBounds_toArray, List.set_cons_zero, List.set_cons_succ]
  refine wpAnyH_take (i := 13) (v := ?_) rfl (by kernel_rfl) (by kernel_rfl) (by kernel_rfl) (fun _ _ _ h => h) (Or.inl ⟨by kernel_rfl, ?_⟩) hS ?_; rotate_left; focus (intro uu hu; clear hu; go_simp; try with_reducible rfl)
  try simp only [Act.put, List.getElem_toArray, List.getElem_cons_succ, List.getElem_cons_zero, List.setIfInBounds_toArray, List.set_cons_zero, List.set_cons_succ]
  refine wpAnyH_take (i := 14) (v := ?_) rfl (by kernel_rfl) (by kernel_rfl) (by kernel_rfl) (fun _ _ _ h => h) (Or.inl ⟨by kernel_rfl, ?_⟩) hS ?_; rotate_left; focus (intro uu hu; clear hu; go_simp; try with_reducible rfl)
  try simp only [Act.put, List.getElem_toArray, List.getElem_cons_succ, List.getElem_cons_zero, List.setIfInBounds_toArray, List.set_cons_zero, List.set_cons_succ]
  refine wpAnyH_take (i := 15) (v := ?_) rfl (by kernel_rfl) (by kernel_rfl) (by kernel_rfl) (fun _ _ _ h => h) (Or.inl ⟨by kernel_rfl, ?_⟩) hS ?_; rotate_left; focus (intro uu hu; clear hu; go_simp; try with_reducible rfl)
  try simp only [Act.put, List.getElem_toArray, List.getElem_cons_succ, List.getElem_cons_zero, List.setIfInBounds_toArray, List.set_cons_zero, List.set_cons_succ]
  refine wpAnyH_take (i := 16) (v := ?_) rfl (by kernel_rfl) (by kernel_rfl) (by kernel_rfl) (fun _ _ _ h => h) (Or.inl ⟨by kernel_rfl, ?_⟩) hS ?_; rotate_left; focus (intro uu hu; clear hu; go_simp; try with_reducible rfl)
  try simp only [Act.put, List.getElem_toArray, List.getElem_cons_succ, List.getElem_cons_zero, List.setIfInBounds_toArray, List.set_cons_zero, List.set_cons_succ]
  refine wpAnyH_take (i := 17) (v := ?_) rfl (by kernel_rfl) (by kernel_rfl) (by kernel_rfl) (fun _ _ _ h => h) (Or.inl ⟨by kernel_rfl, ?_⟩) hS ?_; rotate_left; focus (intro uu hu; clear hu; go_simp; try with_reducible rfl)
  try simp only [Act.put, List.getElem_toArray, List.getElem_cons_succ, List.getElem_cons_zero, List.setIfInBounds_toArray, List.set_cons_zero, List.set_cons_succ]
  refine wpAnyH_take (i := 18) (v := ?_) rfl (by kernel_rfl) (by kernel_rfl) (by kernel_rfl) (fun _ _ _ h => h) (Or.inl ⟨by kernel_rfl, ?_⟩) hS ?_; rotate_left; focus (intro uu hu; clear hu; go_simp; try with_reducible rfl)
  try simp only [Act.put, List.getElem_toArray, List.getElem_cons_succ, List.getElem_cons_zero, List.setIfInBounds_toArray, List.set_cons_zero, List.set_cons_succ]
  refine wpAnyH_take (i := 19) (v := .int .i64 r) rfl (by kernel_rfl) (by kernel_rfl) (by kernel_rfl) (fun _ _ _ h => h) (Or.inl ⟨by kernel_rfl, ?ld⟩) hS ?_; case ld => (intro uu hu; have hu2 := hu; obtain ⟨l0, l1, l2, l3⟩ := hu2; clear hu; go_simp)
  try simp only [Act.put, List.getElem_toArray, List.getElem_cons_succ, List.getElem_cons_zero, List.setIfInBounds_toArray, List.set_cons_zero, List.set_cons_succ]
  refine wpAnyH_take (i := 20) (v := ?_) rfl (by kernel_rfl) (by kernel_rfl) (by kernel_rfl) (fun _ _ _ h => h) (Or.inl ⟨by kernel_rfl, ?_⟩) hS ?_; rotate_left; focus (intro uu hu; clear hu; go_simp; try with_reducible rfl)
  try simp only [Act.put, List.getElem_toArray, List.getElem_cons_succ, List.getElem_cons_zero, List.setIfInBounds_toArray, List.set_cons_zero, List.set_cons_succ]
  refine wpAnyH_take (i := 21) (v := ?_) rfl (by kernel_rfl) (by kernel_rfl) (by kernel_rfl) (fun _ _ _ h => h) (Or.inl ⟨by kernel_rfl, ?_⟩) hS ?_; rotate_left; focus (intro uu hu; clear hu; go_simp; try with_reducible rfl)
  try simp only [Act.put, List.getElem_toArray, List.getElem_cons_succ, List.getElem_cons_zero, List.setIfInBounds_toArray, List.set_cons_zero, List.set_cons_succ]
  refine wpAnyH_take (i := 22) (v := ?_) rfl (by kernel_rfl) (by kernel_rfl) (by kernel_rfl) (fun _ _ _ h => h) (Or.inl ⟨by kernel_rfl, ?_⟩) hS ?_; rotate_left; focus (intro uu hu; clear hu; go_simp; try with_reducible rfl)
  try simp only [Act.put, List.getElem_toArray, List.getElem_cons_succ, List.getElem_cons_zero, List.setIfInBounds_toArray, List.set_cons_zero, List.set_cons_succ]
  refine wpAnyH_take (i := 23) (v := ?_) rfl (by kernel_rfl) (by kernel_rfl) (by kernel_rfl) (fun _ _ _ h => h) (Or.inl ⟨by kernel_rfl, ?_⟩) hS ?_; rotate_left; focus (intro uu hu; clear hu; go_simp; try with_reducible rfl)
  try simp only [Act.put, List.getElem_toArray, List.getElem_cons_succ, List.getElem_cons_zero, List.setIfInBounds_toArray, List.set_cons_zero, List.set_cons_succ]
  refine wpAnyH_take (i := 24) (v := .string b) rfl (by kernel_rfl) (by kernel_rfl) (by kernel_rfl) (fun _ _ _ h => h) (Or.inl ⟨by kernel_rfl, ?ld⟩) hS ?_; case ld => (intro uu hu; have hu2 := hu; obtain ⟨l0, l1, l2, l3⟩ := hu2; clear hu; go_simp)
  try simp only [Act.put, List.getElem_toArray, List.getElem_cons_succ, List.getElem_cons_zero, List.setIfInBounds_toArray, List.set_cons_zero, List.set_cons_succ]
  refine wpAnyH_take (i := 25) (v := ?_) rfl (by kernel_rfl) (by kernel_rfl) (by kernel_rfl) (fun _ _ _ h => h) (Or.inl ⟨by kernel_rfl, ?_⟩) hS ?_; rotate_left; focus (intro uu hu; clear hu; go_simp; try with_reducible rfl)
  try simp only [Act.put, List.getElem_toArray, List.getElem_cons_succ, List.getElem_cons_zero, List.setIfInBounds_toArray, List.set_cons_zero, List.set_cons_succ]
  refine wpAnyH_take (i := 26) (v := ?_) rfl (by kernel_rfl) (by kernel_rfl) (by kernel_rfl) (fun _ _ _ h => h) (Or.inl ⟨by kernel_rfl, ?_⟩) hS ?_; rotate_left; focus (intro uu hu; clear hu; go_simp; try with_reducible rfl)
  try simp only [Act.put, List.getElem_toArray, List.getElem_cons_succ, List.getElem_cons_zero, List.setIfInBounds_toArray, List.set_cons_zero, List.set_cons_succ]
  refine wpAnyH_take (i := 27) (v := .bool false) rfl (by kernel_rfl) (by kernel_rfl) (by kernel_rfl) (fun _ _ _ h => h) (Or.inl ⟨by kernel_rfl, ?ld⟩) hS ?_; case ld => (intro uu hu; clear hu; go_simp)
  try simp only [Act.put, List.getElem_toArray, List.getElem_cons_succ, List.getElem_cons_zero, List.setIfInBounds_toArray, List.set_cons_zero, List.set_cons_succ]
  refine wpAnyH_take (i := 28) (v := ?_) rfl (by kernel_rfl) (by kernel_rfl) (by kernel_rfl) (fun _ _ _ h => h) (Or.inl ⟨by kernel_rfl, ?_⟩) hS ?_; rotate_left; focus (intro uu hu; clear hu; go_simp; try with_reducible rfl)
  try simp only [Act.put, List.getElem_toArray, List.getElem_cons_succ, List.getElem_cons_zero, List.setIfInBounds_toArray, List.set_cons_zero, List.set_cons_succ]
  refine wpAnyH_done (by kernel_rfl) ?_ _
  clear hS
  go_wp2_with fail
  have hmn : min (s.size : Int) (r - b.size) = (s.size : Nat) := by omega
  refine (specPushOpen0 r b s g (World.drew w) hs hr1 hb1 s.size hmn hx0 hx1 hx2 hx3 (R.frozen 1)).mono ?_; rintro x w1 ⟨rfl, q, rfl⟩
  have hse : s.extract 0 s.size = s := by simp
  rw [hse]
  have R1 : RowIs (((World.drew w).drewN q).setCell ⟨g, 1, none⟩ (.string (b ++ s))) g 27 [.int .i64 r, .string (b ++ s), .bool false, .bool false, .int .i64 r2, .string b2, .bool e2, .bool k2, .int .i64 wt, .int .i64 cm] := RowIs.set (w := (World.drew w).drewN q) R 1 (.string (b ++ s))
  have B1 : Turn g (g + 1) w (((World.drew w).drewN q).setCell ⟨g, 1, none⟩ (.string (b ++ s))) := ((Turn.refl g (g + 1) w).drew.drewN q).setCell _ (.inl ⟨Nat.le_refl _, Nat.lt_succ_self _⟩)
  clear hx0 hx1 hx2 hx3 R
  generalize ((World.drew w).drewN q).setCell ⟨g, 1, none⟩ (.string (b ++ s)) = V at *
  have hy2 := RowIs.cell (j := 2) R1 rfl
  have hyf := RowIs.frozen R1 2
  go_wp2_with fail
  go_ret
  exact ⟨rfl, R1.set 2 (.bool fin), B1.setCell _ (.inl ⟨Nat.le_refl _, Nat.lt_succ_self _⟩)⟩
set_option maxHeartbeats 1000000 in
theorem specL16Out (r : Int) (b : ByteArray) (e k : Bool) (r2 : Int) (b2 : ByteArray) (e2 k2 : Bool) (wt cm : Int) (n : Int) (g : Nat) (w : World) (R : RowIs w g 27 [.int .i64 r, .string b, .bool e, .bool k, .int .i64 r2, .string b2, .bool e2, .bool k2, .int .i64 wt, .int .i64 cm]) (hb : b.size ≤ maxLen) (hb2 : b.size ≤ 2000) (hw0 : 0 ≤ wt) (hw1 : wt ≤ 1000000) :
    Calls Try.prog 47 #[.pointer (some ⟨g, 0, none⟩), .int .i64 n] w fun x w' => x = .returned (.string (b.extract 0 (max 0 (min (min n (1000000 - wt)) (b.size : Int))).toNat)) ∧ RowIs w' g 27 [.int .i64 r, .string (b.extract (max 0 (min (min n (1000000 - wt)) (b.size : Int))).toNat b.size), .bool e, .bool k, .int .i64 r2, .string b2, .bool e2, .bool k2, .int .i64 (wt + ((max 0 (min (min n (1000000 - wt)) (b.size : Int))).toNat : Int)), .int .i64 cm] ∧ Turn g (g + 1) w w' := by
  obtain ⟨m, hm⟩ : ∃ m : Nat, (max 0 (min (min n (1000000 - wt)) (b.size : Int))).toNat = m := ⟨_, rfl⟩
  have hm1 : (m : Int) ≤ b.size := by omega
  have hm2 : (m : Int) ≤ 1000000 := by omega
  have hx1 := RowIs.cell (j := 1) R rfl
  have hx8 := RowIs.cell (j := 8) R rfl
  have hf1 := RowIs.frozen R 1
  have e1 : IntKind.i64.wrap (1000000 - wt) = 1000000 - wt := by rw [IntKind.wrap_i64]; omega
  rw [hm]
  go_enter Try.func47, Try.ntmps47
  go_wp2_with fail
  refine wp_region_held_drew (S := (fun u => u.cell? ⟨g, 8, none⟩ = some (.int .i64 wt))) (by kernel_rfl) hx8 (fun hS => ?_)
  refine wpAnyH_take (i := 0) (v := ?_) rfl (by kernel_rfl) (by kernel_rfl) (by kernel_rfl) (fun _ _ _ h => h) (Or.inl ⟨by kernel_rfl, ?_⟩) hS ?_; rotate_left; focus (intro uu hu; clear hu; go_simp; try with_reducible rfl)
  try simp only [Act.put, List.getElem_toArray, List.getElem_cons_succ, List.getElem_cons_zero, List.setIfInBounds_toArray, List.set_cons_zero, List.set_cons_succ]
  refine wpAnyH_take (i := 1) (v := ?_) rfl (by kernel_rfl) (by kernel_rfl) (by kernel_rfl) (fun _ _ _ h => h) (Or.inl ⟨by kernel_rfl, ?_⟩) hS ?_; rotate_left; focus (intro uu hu; clear hu; go_simp; try with_reducible rfl)
  try simp only [Act.put, List.getElem_toArray, List.getElem_cons_succ, List.getElem_cons_zero, List.setIfInBounds_toArray, List.set_cons_zero, List.set_cons_succ]
  refine wpAnyH_take (i := 2) (v := ?_) rfl (by kernel_rfl) (by kernel_rfl) (by kernel_rfl) (fun _ _ _ h => h) (Or.inl ⟨by kernel_rfl, ?_⟩) hS ?_; rotate_left; focus (intro uu hu; clear hu; go_simp; try with_reducible rfl)
  try simp only [Act.put, List.getElem_toArray, List.getElem_cons_succ, List.getElem_cons_zero, List.setIfInBounds_toArray, List.set_cons_zero, List.set_cons_succ]
  refine wpAnyH_take (i := 3) (v := ?_) rfl (by kernel_rfl) (by kernel_rfl) (by kernel_rfl) (fun _ _ _ h => h) (Or.inl ⟨by kernel_rfl, ?_⟩) hS ?_; rotate_left; focus (intro uu hu; clear hu; go_simp; try with_reducible rfl)
  try simp only [Act.put, List.getElem_toArray, List.getElem_cons_succ, List.getElem_cons_zero, List.setIfInBounds_toArray, List.set_cons_zero, List.set_cons_succ]
  refine wpAnyH_take (i := 4) (v := ?_) rfl (by kernel_rfl) (by kernel_rfl) (by kernel_rfl) (fun _ _ _ h => h) (Or.inl ⟨by kernel_rfl, ?_⟩) hS ?_; rotate_left; focus (intro uu hu; clear hu; go_simp; try with_reducible rfl)
  try simp only [Act.put, List.getElem_toArray, List.getElem_cons_succ, List.getElem_cons_zero, List.setIfInBounds_toArray, List.set_cons_zero, List.set_cons_succ]
  refine wpAnyH_take (i := 5) (v := ?_) rfl (by kernel_rfl) (by kernel_rfl) (by kernel_rfl) (fun _ _ _ h => h) (Or.inl ⟨by kernel_rfl, ?_⟩) hS ?_; rotate_left; focus (intro uu hu; clear hu; go_simp; try with_reducible rfl)
  try simp only [Act.put, List.getElem_toArray, List.getElem_cons_succ, List.getElem_cons_zero, List.setIfInBounds_toArray, List.set_cons_zero, List.set_cons_succ]
  refine wpAnyH_take (i := 6) (v := ?_) rfl (by kernel_rfl) (by kernel_rfl) (by kernel_rfl) (fun _ _ _ h => h) (Or.inl ⟨by kernel_rfl, ?_⟩) hS ?_; rotate_left; focus (intro uu hu; clear hu; go_simp; try with_reducible rfl)
  try simp only [Act.put, List.getElem_toArray, List.getElem_cons_succ, List.getElem_cons_zero, List.setIfInBounds_toArray, List.set_cons_zero, List.set_cons_succ]
  refine wpAnyH_take (i := 7) (v := .int .i64 wt) rfl (by kernel_rfl) (by kernel_rfl) (by kernel_rfl) (fun _ _ _ h => h) (Or.inl ⟨by kernel_rfl, ?ld⟩) hS ?_; case ld => (intro uu hu; go_simp)
  try simp only [Act.put, List.getElem_toArray, List.getElem_cons_succ, List.getElem_cons_zero, List.setIfInBounds_toArray, List.set_cons_zero, List.set_cons_succ]
  refine wpAnyH_take (i := 8) (v := .int .i64 (1000000 - wt)) rfl (by kernel_rfl) (by kernel_rfl) (by kernel_rfl) (fun _ _ _ h => h) (Or.inl ⟨by kernel_rfl, ?ld⟩) hS ?_; case ld => (intro uu hu; clear hu; go_simp)
  try simp only [Act.put, List.getElem_toArray, List.getElem_cons_succ, List.getElem_cons_zero, List.setIfInBounds_toArray, List.set_cons_zero, List.set_cons_succ]
  refine wpAnyH_ready (rs := [9]) (by kernel_rfl) (by simp) ?_; refine AllReadyH.cons rfl (fun K hK => ?_) AllReadyH.nil; rw [if_pos (by kernel_rfl)]; go_simp
  refine (specMin16 _ _ _).mono ?_; rintro x w9 ⟨rfl, hsame⟩; obtain rfl := hsame.symm; clear hsame
  refine hK.out _ _ hS (fun hS => ?_)
  clear hK K
  try simp only [Act.put, List.getElem_toArray, List.getElem_cons_succ, List.getElem_cons_zero, List.setIfInBounds_toArray, List.set_cons_zero, List.set_cons_succ]
  refine wpAnyH_ready (rs := [10]) (by kernel_rfl) (by simp) ?_; refine AllReadyH.cons rfl (fun K hK => ?_) AllReadyH.nil; rw [if_pos (by kernel_rfl)]; go_simp
  have hpl := specPull16 b (min n (1000000 - wt)) g (World.drew w) hb hx1 hf1
  rw [hm] at hpl
  refine hpl.mono ?_; clear hpl; rintro x w1 ⟨rfl, rfl⟩
  have R1 : RowIs ((World.drew w).setCell ⟨g, 1, none⟩ (.string (b.extract m b.size))) g 27 [.int .i64 r, .string (b.extract m b.size), .bool e, .bool k, .int .i64 r2, .string b2, .bool e2, .bool k2, .int .i64 wt, .int .i64 cm] := RowIs.set (w := World.drew w) R 1 _
  have B1 : Turn g (g + 1) w ((World.drew w).setCell ⟨g, 1, none⟩ (.string (b.extract m b.size))) := (Turn.refl g (g + 1) w).drew.setCell _ (.inl ⟨Nat.le_refl _, Nat.lt_succ_self _⟩)
  clear hx1 hx8 hf1 R
  generalize (World.drew w).setCell ⟨g, 1, none⟩ (.string (b.extract m b.size)) = V at *
  refine hK.out _ _ (RowIs.cell (j := 8) R1 rfl) (fun hS => ?_)
  clear hK K
  try simp only [Act.put, List.getElem_toArray, List.getElem_cons_succ, List.getElem_cons_zero, List.setIfInBounds_toArray, List.set_cons_zero, List.set_cons_succ]
  refine wpAnyH_take (i := 11) (v := ?_) rfl (by kernel_rfl) (by kernel_rfl) (by kernel_rfl) (fun _ _ _ h => h) (Or.inl ⟨by kernel_rfl, ?_⟩) hS ?_; rotate_left; focus (intro uu hu; clear hu; go_simp; try with_reducible rfl)
  try simp only [Act.put, List.getElem_toArray, List.getElem_cons_succ, List.getElem_cons_zero, List.setIfInBounds_toArray, List.set_cons_zero, List.set_cons_succ]
  refine wpAnyH_done (by kernel_rfl) ?_ _
  clear hS
  have hsz : (b.extract 0 m).size = m := by rw [ByteArray.size_extract]; omega
  have hy8 := RowIs.cell (j := 8) R1 rfl
  have hyf := RowIs.frozen R1 8
  obtain ⟨s, hs⟩ : ∃ s, b.extract 0 m = s := ⟨_, rfl⟩
  rw [hs] at hsz ⊢
  have HS := hide hs
  clear hs hm
  have hszI : (s.size : Int) = m := by omega
  have e2 : IntKind.i64.wrap (wt + (m : Int)) = wt + m := by rw [IntKind.wrap_i64]; omega
  go_wp2_with fail
  go_ret
  exact ⟨by rw [HS.out]; rfl, by have := R1.set 8 (.int .i64 (wt + (m : Int))); exact this, B1.setCell _ (.inl ⟨Nat.le_refl _, Nat.lt_succ_self _⟩)⟩
set_option maxHeartbeats 1000000 in
theorem specL16Back_k (r : Int) (b : ByteArray) (e k : Bool) (r2 : Int) (b2 : ByteArray) (e2 : Bool) (wt cm : Int) (s : ByteArray) (fin : Bool) (g : Nat) (w : World) (R : RowIs w g 27 [.int .i64 r, .string b, .bool e, .bool k, .int .i64 r2, .string b2, .bool e2, .bool true, .int .i64 wt, .int .i64 cm]) (hs : s.size ≤ maxLen) :
    Calls Try.prog 48 #[.pointer (some ⟨g, 0, none⟩), .string s, .bool fin] w fun x w' => x = .returned (.int .i64 0) ∧ RowIs w' g 27 [.int .i64 r, .string b, .bool e, .bool k, .int .i64 r2, .string b2, .bool e2, .bool true, .int .i64 wt, .int .i64 cm] ∧ Turn g (g + 1) w w' := by
  unfold maxLen at hs
  have hx4 := RowIs.cell (j := 4) R rfl
  have hx5 := RowIs.cell (j := 5) R rfl
  have hx6 := RowIs.cell (j := 6) R rfl
  have hx7 := RowIs.cell (j := 7) R rfl
  go_enter Try.func48, Try.ntmps48
  go_wp2_with fail
  refine (specPushShut4 r2 b2 e2 true s g _ (by cases e2 <;> rfl) hx6 hx7).mono ?_; rintro x w1 ⟨rfl, hsame⟩; obtain rfl := hsame.symm; clear hsame
  have hxf := RowIs.frozen R 6
  cases fin
  · go_wp2_with fail
    go_ret
    exact ⟨rfl, R, Turn.refl _ _ _⟩
  by_cases h0 : (0 : Int) = s.size
  · have h1 : ((0 : Int) == (s.size : Int)) = true := by simpa using h0
    clear h0
    go_wp2_with fail
    go_ret
    exact ⟨rfl, R, Turn.refl _ _ _⟩
  · have h1 : ((0 : Int) == (s.size : Int)) = false := by simpa using h0
    go_wp2_with fail
    go_ret
    exact ⟨rfl, R, Turn.refl _ _ _⟩
set_option maxHeartbeats 1000000 in
theorem specL16Back_e (r : Int) (b : ByteArray) (e k : Bool) (r2 : Int) (b2 : ByteArray)  (wt cm : Int) (s : ByteArray) (fin : Bool) (g : Nat) (w : World) (R : RowIs w g 27 [.int .i64 r, .string b, .bool e, .bool k, .int .i64 r2, .string b2, .bool true, .bool false, .int .i64 wt, .int .i64 cm]) (hs : s.size ≤ maxLen) :
    Calls Try.prog 48 #[.pointer (some ⟨g, 0, none⟩), .string s, .bool fin] w fun x w' => x = .returned (.int .i64 0) ∧ RowIs w' g 27 [.int .i64 r, .string b, .bool e, .bool k, .int .i64 r2, .string b2, .bool true, .bool false, .int .i64 wt, .int .i64 cm] ∧ Turn g (g + 1) w w' := by
  unfold maxLen at hs
  have hx4 := RowIs.cell (j := 4) R rfl
  have hx5 := RowIs.cell (j := 5) R rfl
  have hx6 := RowIs.cell (j := 6) R rfl
  have hx7 := RowIs.cell (j := 7) R rfl
  go_enter Try.func48, Try.ntmps48
  go_wp2_with fail
  refine (specPushShut4 r2 b2 true false s g _ (by rfl) hx6 hx7).mono ?_; rintro x w1 ⟨rfl, hsame⟩; obtain rfl := hsame.symm; clear hsame
  have hxf := RowIs.frozen R 6
  cases fin
  · go_wp2_with fail
    go_ret
    exact ⟨rfl, R, Turn.refl _ _ _⟩
  by_cases h0 : (0 : Int) = s.size
  · have h1 : ((0 : Int) == (s.size : Int)) = true := by simpa using h0
    clear h0
    go_wp2_with fail
    go_ret
    exact ⟨rfl, R.set 6 (.bool true), (Turn.refl g (g + 1) w).setCell _ (.inl ⟨Nat.le_refl _, Nat.lt_succ_self _⟩)⟩
  · have h1 : ((0 : Int) == (s.size : Int)) = false := by simpa using h0
    go_wp2_with fail
    go_ret
    exact ⟨rfl, R, Turn.refl _ _ _⟩
set_option maxHeartbeats 1000000 in
theorem specL16Back_o (r : Int) (b : ByteArray) (e k : Bool) (r2 : Int) (b2 : ByteArray)  (wt cm : Int) (s : ByteArray) (fin : Bool) (g : Nat) (w : World) (R : RowIs w g 27 [.int .i64 r, .string b, .bool e, .bool k, .int .i64 r2, .string b2, .bool false, .bool false, .int .i64 wt, .int .i64 cm]) (hs : s.size ≤ 1048576) (hr1 : r2 ≤ 2000) (hb1 : (b2.size : Int) ≤ r2) (n : Nat) (hn : min (s.size : Int) (r2 - b2.size) = n) :
    Calls Try.prog 48 #[.pointer (some ⟨g, 0, none⟩), .string s, .bool fin] w fun x w' => x = .returned (.int .i64 (n : Int)) ∧ RowIs w' g 27 [.int .i64 r, .string b, .bool e, .bool k, .int .i64 r2, .string (b2 ++ s.extract 0 n), .bool (fin && decide (n = s.size)), .bool false, .int .i64 wt, .int .i64 cm] ∧ Turn g (g + 1) w w' := by
  have hx4 := RowIs.cell (j := 4) R rfl
  have hx5 := RowIs.cell (j := 5) R rfl
  have hx6 := RowIs.cell (j := 6) R rfl
  have hx7 := RowIs.cell (j := 7) R rfl
  go_enter Try.func48, Try.ntmps48
  go_wp2_with fail
  refine (specPushOpen4 r2 b2 s g _ hs hr1 hb1 n hn hx4 hx5 hx6 hx7 (R.frozen 5)).mono ?_; rintro x w1 ⟨rfl, q, rfl⟩
  have R1 : RowIs ((w.drewN q).setCell ⟨g, 5, none⟩ (.string (b2 ++ s.extract 0 n))) g 27 [.int .i64 r, .string b, .bool e, .bool k, .int .i64 r2, .string (b2 ++ s.extract 0 n), .bool false, .bool false, .int .i64 wt, .int .i64 cm] := RowIs.set (w := w.drewN q) R 5 _
  have B1 : Turn g (g + 1) w ((w.drewN q).setCell ⟨g, 5, none⟩ (.string (b2 ++ s.extract 0 n))) := ((Turn.refl g (g + 1) w).drewN q).setCell _ (.inl ⟨Nat.le_refl _, Nat.lt_succ_self _⟩)
  clear hx4 hx5 hx6 hx7 R
  generalize (w.drewN q).setCell ⟨g, 5, none⟩ (.string (b2 ++ s.extract 0 n)) = V at *
  have hy6 := RowIs.cell (j := 6) R1 rfl
  have hy7 := RowIs.cell (j := 7) R1 rfl
  have hyf := RowIs.frozen R1 6
  cases fin
  · go_wp2_with fail
    go_ret
    exact ⟨rfl, R1, B1⟩
  by_cases h0 : n = s.size
  · have h1 : ((n : Int) == (s.size : Int)) = true := by simp [h0]
    have h2 : decide (n = s.size) = true := by simpa using h0
    clear h0
    go_wp2_with fail
    go_ret
    exact ⟨rfl, by rw [h2]; exact R1.set 6 (.bool true), B1.setCell _ (.inl ⟨Nat.le_refl _, Nat.lt_succ_self _⟩)⟩
  · have h1 : ((n : Int) == (s.size : Int)) = false := by simp; omega
    have h2 : decide (n = s.size) = false := by simpa using h0
    clear h0
    go_wp2_with fail
    go_ret
    exact ⟨rfl, by rw [h2]; exact R1, B1⟩
set_option maxHeartbeats 1000000 in
theorem specL16Torn (r : Int) (b : ByteArray) (e k : Bool) (r2 : Int) (b2 : ByteArray) (e2 k2 : Bool) (wt cm : Int) (g : Nat) (w : World) (R : RowIs w g 27 [.int .i64 r, .string b, .bool e, .bool k, .int .i64 r2, .string b2, .bool e2, .bool k2, .int .i64 wt, .int .i64 cm]) :
    Calls Try.prog 44 #[.pointer (some ⟨g, 0, none⟩)] w fun x w' => x = .returned (.tuple #[]) ∧ RowIs w' g 27 [.int .i64 r, .string ⟨#[]⟩, .bool e, .bool true, .int .i64 r2, .string ⟨#[]⟩, .bool e2, .bool true, .int .i64 wt, .int .i64 cm] ∧ Turn g (g + 1) w w' := by
  have hx1 := RowIs.cell (j := 1) R rfl
  have hx3 := RowIs.cell (j := 3) R rfl
  have hx5 := RowIs.cell (j := 5) R rfl
  have hx7 := RowIs.cell (j := 7) R rfl
  have hxf := fun j => RowIs.frozen R j
  have hB : Turn g (g + 1) w ((((w.setCell ⟨g, 3, none⟩ (.bool true)).setCell ⟨g, 1, none⟩ (.string ⟨#[]⟩)).setCell ⟨g, 7, none⟩ (.bool true)).setCell ⟨g, 5, none⟩ (.string ⟨#[]⟩)) := ((((Turn.refl g (g + 1) w).setCell _ (.inl ⟨Nat.le_refl _, Nat.lt_succ_self _⟩)).setCell _ (.inl ⟨Nat.le_refl _, Nat.lt_succ_self _⟩)).setCell _ (.inl ⟨Nat.le_refl _, Nat.lt_succ_self _⟩)).setCell _ (.inl ⟨Nat.le_refl _, Nat.lt_succ_self _⟩)
  go_enter Try.func44, Try.ntmps44
  go_wp2_with fail
  refine bodyPost_end (v := .tuple #[]) (by simp [results, Try.results44, go_sem]) rfl ?_
  exact ⟨rfl, (((R.set 3 (.bool true)).set 1 (.string ⟨#[]⟩)).set 7 (.bool true)).set 5 (.string ⟨#[]⟩), hB⟩
end Go.Proofs.Ythkjjnnmnacgcaa
