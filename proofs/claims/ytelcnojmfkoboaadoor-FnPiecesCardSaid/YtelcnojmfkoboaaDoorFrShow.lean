/- Chapter 7's Shown and Payload, of the program and of the model. -/
import Derived.Test.YtelcnojmfkoboaaDoorFrOk
import Derived.Test.YtelcnojmfkoboaaDoorClone

namespace Go.Proofs.YtelcnojmfkoboaaDoor
open Go.RowKit
set_option maxRecDepth 100000
set_option linter.unusedSimpArgs false
set_option linter.unusedVariables false
theorem bysV_of {n : Int} {c : Nat} (hc1 : 1 ≤ c) (hc : c ≤ 4) (h0 : 0 ≤ n) (h1 : n < 256 ^ c) : bysV n c = bytV c n := by
  unfold bysV
  rw [Int.toNat_natCast, if_pos ⟨decide_eq_true ⟨by omega, by omega⟩, decide_eq_true ⟨h0, by omega⟩⟩]
theorem bytV_one (n : Int) : bytV 1 n = strOf [n % 256] := rfl
theorem strOf_two (a b : Int) : strOf [a] ++ strOf [b] = strOf [a, b] := bys_inj (by unfold strOf; rw [bys_append]; rfl)
/-- The head as the program writes it, part by part. -/
theorem hdV_parts {k fl st : Int} {b : ByteArray} (h : hdOk k fl st b.size = true) : bytV 2 b.size ++ bytV 1 k ++ bytV 1 fl ++ bytV 3 st ++ b = hdV ⟨k, fl, st, b⟩ ++ b := by
  obtain ⟨p1, p2, p3, p4, p5, p6, p7, p8⟩ := hd_parts h
  have e1 : k % 256 = k := by omega
  have e2 : fl % 256 = fl := by omega
  unfold hdV
  dsimp only
  rw [bytV_one, bytV_one, e1, e2, ba_append_assoc (bytV 2 _), strOf_two, ba_append_assoc (bytV 2 _)]

set_option maxHeartbeats 1000000 in
theorem implShown (k fl st : Int) (b : ByteArray) (w : World) (hb : b.size ≤ maxLen) : Calls Tryd.prog 10 #[.agg #[.int .i64 k, .int .i64 fl, .int .i64 st, .string b]] w fun e w' => e = .returned (.string (shwV ⟨k, fl, st, b⟩)) ∧ Below w.heap.size w w' := by
  have hbm := hb
  unfold maxLen at hb
  cases hok : okFr ⟨k, fl, st, b⟩
  · have hv : shwV ⟨k, fl, st, b⟩ = ⟨#[]⟩ := by simp [shwV, hok]
    rw [hv]
    go_enter Tryd.func10, Tryd.ntmps10
    go_wp2_with fail
    refine (implFrameOk k fl st b _ hbm).mono ?_; rw [hok]; rintro e w1 ⟨rfl, hb1⟩
    go_wp2_with fail
    go_ret
    exact ⟨rfl, (by repeat' (first | (with_reducible exact Below.refl _ _) | (with_reducible refine Below.drew ?_) | (with_reducible refine bo_drewN _ ?_) | (with_reducible refine bo_alloc ?_ _) | (refine bchain ?_ (by with_reducible assumption)) | (with_reducible refine Below.setCell ?_ ?_ _) | go_size))⟩
  · have hh := ok_head hok
    dsimp only at hh
    obtain ⟨p1, p2, p3, p4, p5, p6, p7, p8⟩ := hd_parts hh
    have hv := (shw_ok hok).trans (hdV_parts hh).symm
    rw [hv]
    clear hv hh
    have z2 := bytV_size 2 b.size
    have z1 := bytV_size 1 k
    have y1 := bytV_size 1 fl
    have z3 := bytV_size 3 st
    have i2 := fun w => implBytes b.size 2 w
    rw [show bysV b.size 2 = bytV 2 b.size from bysV_of (c := 2) (by omega) (by omega) (by omega) (by omega)] at i2
    have ik := fun w => implBytes k 1 w
    rw [show bysV k 1 = bytV 1 k from bysV_of (c := 1) (by omega) (by omega) (by omega) (by omega)] at ik
    have il := fun w => implBytes fl 1 w
    rw [show bysV fl 1 = bytV 1 fl from bysV_of (c := 1) (by omega) (by omega) (by omega) (by omega)] at il
    have i3 := fun w => implBytes st 3 w
    rw [show bysV st 3 = bytV 3 st from bysV_of (c := 3) (by omega) (by omega) (by omega) (by omega)] at i3
    generalize bytV 2 b.size = T2 at *
    generalize bytV 1 k = T1 at *
    generalize bytV 1 fl = U1 at *
    generalize bytV 3 st = T3 at *
    have s1 : ¬ 9223372036854775807 < T2.size + T1.size := by omega
    have s2 : ¬ 9223372036854775807 < (T2 ++ T1).size + U1.size := by rw [ba_size_append]; omega
    have s3 : ¬ 9223372036854775807 < (T2 ++ T1 ++ U1).size + T3.size := by rw [ba_size_append, ba_size_append]; omega
    have s4 : ¬ 9223372036854775807 < (T2 ++ T1 ++ U1 ++ T3).size + b.size := by rw [ba_size_append, ba_size_append, ba_size_append]; omega
    go_enter Tryd.func10, Tryd.ntmps10
    go_wp2_with fail
    refine (implFrameOk k fl st b _ hbm).mono ?_; rw [hok]; rintro e w1 ⟨rfl, hb1⟩
    have hlt : w.heap.size < w1.heap.size := by have := hb1.size; simp at this; omega
    have c0 : w1.cell? ⟨w.heap.size, 0, none⟩ = some (.int .i64 k) := by rw [hb1.cell (p := ⟨w.heap.size, 0, none⟩) (by simp)]; simp
    have c1 : w1.cell? ⟨w.heap.size, 1, none⟩ = some (.int .i64 fl) := by rw [hb1.cell (p := ⟨w.heap.size, 1, none⟩) (by simp)]; simp
    have c2 : w1.cell? ⟨w.heap.size, 2, none⟩ = some (.int .i64 st) := by rw [hb1.cell (p := ⟨w.heap.size, 2, none⟩) (by simp)]; simp
    have c3 : w1.cell? ⟨w.heap.size, 3, none⟩ = some (.string b) := by rw [hb1.cell (p := ⟨w.heap.size, 3, none⟩) (by simp)]; simp
    have hbw : Below w.heap.size w w1 := (by repeat' (first | (with_reducible exact Below.refl _ _) | (with_reducible refine Below.drew ?_) | (with_reducible refine bo_drewN _ ?_) | (with_reducible refine bo_alloc ?_ _) | (refine bchain ?_ (by with_reducible assumption)) | (with_reducible refine Below.setCell ?_ ?_ _) | go_size))
    clear hok hb1
    go_wp2_with fail
    have q0 : ∀ y : Later w1, y.w.cell? ⟨w.heap.size, 0, none⟩ = some (.int .i64 k) := fun y => (y.b.cell (p := ⟨w.heap.size, 0, none⟩) hlt).trans c0
    have q1 : ∀ y : Later w1, y.w.cell? ⟨w.heap.size, 1, none⟩ = some (.int .i64 fl) := fun y => (y.b.cell (p := ⟨w.heap.size, 1, none⟩) hlt).trans c1
    have q2 : ∀ y : Later w1, y.w.cell? ⟨w.heap.size, 2, none⟩ = some (.int .i64 st) := fun y => (y.b.cell (p := ⟨w.heap.size, 2, none⟩) hlt).trans c2
    have q3 : ∀ y : Later w1, y.w.cell? ⟨w.heap.size, 3, none⟩ = some (.string b) := fun y => (y.b.cell (p := ⟨w.heap.size, 3, none⟩) hlt).trans c3
    have hne : Nonempty (Later w1) := ⟨⟨w1, Below.refl _ _⟩⟩; refine region_later (by kernel_rfl) (by kernel_rfl) ?_
    repeat (go_big_quiet_step (fail))
    go_big_quiet_want; go_big_quiet_op; refine ⟨.string T2, fun y => later_calls (x := y) (i2 y.w), ?_⟩; go_big_quiet_on
    repeat (go_big_quiet_step (fail))
    go_big_quiet_want; go_big_quiet_op; refine ⟨.string T1, fun y => later_calls (x := y) (ik y.w), ?_⟩; go_big_quiet_on
    repeat (go_big_quiet_step (fail))
    go_big_quiet_want; go_big_quiet_op; refine ⟨.string U1, fun y => later_calls (x := y) (il y.w), ?_⟩; go_big_quiet_on
    repeat (go_big_quiet_step (fail))
    refine wpQuiet_nil ?_; intro _ hw'; obtain ⟨y, hw''⟩ := hw'; subst hw''; have hby := y.b
    obtain ⟨w2, hw2⟩ : ∃ u, u = y.w := ⟨_, rfl⟩
    rw [← hw2] at hby ⊢
    have hlt2 : w.heap.size < w2.heap.size := Nat.lt_of_lt_of_le hlt hby.size
    replace c2 := (hby.cell (p := ⟨w.heap.size, 2, none⟩) hlt).trans c2
    replace c3 := (hby.cell (p := ⟨w.heap.size, 3, none⟩) hlt).trans c3
    replace hbw := bchain hbw hby
    clear q0 q1 q2 q3 hne hw2 y c0 c1 hby
    go_wp2_with fail
    have q2 : ∀ y : Later w2, y.w.cell? ⟨w.heap.size, 2, none⟩ = some (.int .i64 st) := fun y => (y.b.cell (p := ⟨w.heap.size, 2, none⟩) hlt2).trans c2
    have q3 : ∀ y : Later w2, y.w.cell? ⟨w.heap.size, 3, none⟩ = some (.string b) := fun y => (y.b.cell (p := ⟨w.heap.size, 3, none⟩) hlt2).trans c3
    have hne : Nonempty (Later w2) := ⟨⟨w2, Below.refl _ _⟩⟩; refine region_later (by kernel_rfl) (by kernel_rfl) ?_
    repeat (go_big_quiet_step (fail))
    go_big_quiet_want; go_big_quiet_op; refine ⟨.string T3, fun y => later_calls (x := y) (i3 y.w), ?_⟩; go_big_quiet_on
    repeat (go_big_quiet_step (fail))
    refine wpQuiet_nil ?_; intro _ hw'; obtain ⟨y, hw''⟩ := hw'; subst hw''; have hby := y.b
    go_wp2_with fail
    go_ret
    exact ⟨rfl, bchain hbw hby⟩
end Go.Proofs.YtelcnojmfkoboaaDoor
