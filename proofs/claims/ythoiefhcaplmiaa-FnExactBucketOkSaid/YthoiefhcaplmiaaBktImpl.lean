/- Chapter 12's program: BucketOk, Filled, Poured, WhenFull; a Bucket is filled beside its clock, a function value in a field. -/
import Derived.Test.YthoiefhcaplmiaaBktSpec
import Derived.Test.YthoiefhcaplmiaaMinMax
import Derived.Test.YthoiefhcaplmiaaLater
import Derived.Test.YthoiefhcaplmiaaRowIs
import Derived.Deep.RegionHeld3
import Derived.Deep.DeepCutAuto
import Derived.OpenShut
import Derived.ChangeOld



namespace Go.Proofs.Ythoiefhcaplmiaa
open Go.RowKit
set_option maxRecDepth 100000
set_option linter.unusedSimpArgs false
set_option linter.unusedVariables false
theorem implRight (b : Bk) (w : World) : Calls Try.prog 27 #[bv b] w fun x w' => x = .returned (.bool (okBk b)) ∧ Below w.heap.size w w' := by
  obtain ⟨r, m, l, a⟩ := b
  unfold okBk
  dsimp only [bv]
  cases h1 : inB r 0 1000
  · go_enter Try.func27, Try.ntmps27
    go_wp2_with fail
    refine (implWithin _ _ _ _).mono ?_; rw [h1]; rintro e w1 ⟨rfl, hsame⟩; obtain rfl := hsame.symm; clear hsame
    go_wp2_with fail
    go_ret
    exact ⟨rfl, (by repeat' (first | (with_reducible exact Below.refl _ _) | (with_reducible refine Below.drew ?_) | (with_reducible refine bo_drewN _ ?_) | (with_reducible refine bo_alloc ?_ _) | (refine bchain ?_ (by with_reducible assumption)) | (with_reducible refine Below.setCell ?_ ?_ _) | go_size))⟩
  cases h2 : inB m 1 10000
  · go_enter Try.func27, Try.ntmps27
    go_wp2_with fail
    refine (implWithin _ _ _ _).mono ?_; rw [h1]; rintro e w1 ⟨rfl, hsame⟩; obtain rfl := hsame.symm; clear hsame
    go_wp2_with fail
    refine (implWithin _ _ _ _).mono ?_; rw [h2]; rintro e w1 ⟨rfl, hsame⟩; obtain rfl := hsame.symm; clear hsame
    go_wp2_with fail
    go_ret
    exact ⟨rfl, (by repeat' (first | (with_reducible exact Below.refl _ _) | (with_reducible refine Below.drew ?_) | (with_reducible refine bo_drewN _ ?_) | (with_reducible refine bo_alloc ?_ _) | (refine bchain ?_ (by with_reducible assumption)) | (with_reducible refine Below.setCell ?_ ?_ _) | go_size))⟩
  cases h3 : inB l 0 m
  · go_enter Try.func27, Try.ntmps27
    go_wp2_with fail
    refine (implWithin _ _ _ _).mono ?_; rw [h1]; rintro e w1 ⟨rfl, hsame⟩; obtain rfl := hsame.symm; clear hsame
    go_wp2_with fail
    refine (implWithin _ _ _ _).mono ?_; rw [h2]; rintro e w1 ⟨rfl, hsame⟩; obtain rfl := hsame.symm; clear hsame
    go_wp2_with fail
    refine (implWithin _ _ _ _).mono ?_; rw [h3]; rintro e w1 ⟨rfl, hsame⟩; obtain rfl := hsame.symm; clear hsame
    go_wp2_with fail
    go_ret
    exact ⟨rfl, (by repeat' (first | (with_reducible exact Below.refl _ _) | (with_reducible refine Below.drew ?_) | (with_reducible refine bo_drewN _ ?_) | (with_reducible refine bo_alloc ?_ _) | (refine bchain ?_ (by with_reducible assumption)) | (with_reducible refine Below.setCell ?_ ?_ _) | go_size))⟩
  cases h4 : inB a 0 1000000
  · go_enter Try.func27, Try.ntmps27
    go_wp2_with fail
    refine (implWithin _ _ _ _).mono ?_; rw [h1]; rintro e w1 ⟨rfl, hsame⟩; obtain rfl := hsame.symm; clear hsame
    go_wp2_with fail
    refine (implWithin _ _ _ _).mono ?_; rw [h2]; rintro e w1 ⟨rfl, hsame⟩; obtain rfl := hsame.symm; clear hsame
    go_wp2_with fail
    refine (implWithin _ _ _ _).mono ?_; rw [h3]; rintro e w1 ⟨rfl, hsame⟩; obtain rfl := hsame.symm; clear hsame
    go_wp2_with fail
    refine (implWithin _ _ _ _).mono ?_; rw [h4]; rintro e w1 ⟨rfl, hsame⟩; obtain rfl := hsame.symm; clear hsame
    go_wp2_with fail
    go_ret
    exact ⟨rfl, (by repeat' (first | (with_reducible exact Below.refl _ _) | (with_reducible refine Below.drew ?_) | (with_reducible refine bo_drewN _ ?_) | (with_reducible refine bo_alloc ?_ _) | (refine bchain ?_ (by with_reducible assumption)) | (with_reducible refine Below.setCell ?_ ?_ _) | go_size))⟩
  go_enter Try.func27, Try.ntmps27
  go_wp2_with fail
  refine (implWithin _ _ _ _).mono ?_; rw [h1]; rintro e w1 ⟨rfl, hsame⟩; obtain rfl := hsame.symm; clear hsame
  go_wp2_with fail
  refine (implWithin _ _ _ _).mono ?_; rw [h2]; rintro e w1 ⟨rfl, hsame⟩; obtain rfl := hsame.symm; clear hsame
  go_wp2_with fail
  refine (implWithin _ _ _ _).mono ?_; rw [h3]; rintro e w1 ⟨rfl, hsame⟩; obtain rfl := hsame.symm; clear hsame
  go_wp2_with fail
  refine (implWithin _ _ _ _).mono ?_; rw [h4]; rintro e w1 ⟨rfl, hsame⟩; obtain rfl := hsame.symm; clear hsame
  go_wp2_with fail
  go_ret
  exact ⟨rfl, (by repeat' (first | (with_reducible exact Below.refl _ _) | (with_reducible refine Below.drew ?_) | (with_reducible refine bo_drewN _ ?_) | (with_reducible refine bo_alloc ?_ _) | (refine bchain ?_ (by with_reducible assumption)) | (with_reducible refine Below.setCell ?_ ?_ _) | go_size))⟩
theorem implBucketOk (b : Bk) (w : World) : Calls Try.prog 16 #[bv b] w fun x w' => x = .returned (.bool (okBk b)) ∧ Below w.heap.size w w' := by
  obtain ⟨r, m, l, a⟩ := b
  dsimp only [bv]
  go_enter Try.func16, Try.ntmps16
  go_wp2_with fail
  refine (implRight ⟨r, m, l, a⟩ _).mono ?_; rintro e w1 ⟨rfl, hb1⟩
  go_wp2_with fail
  go_ret
  exact ⟨rfl, (by repeat' (first | (with_reducible exact Below.refl _ _) | (with_reducible refine Below.drew ?_) | (with_reducible refine bo_drewN _ ?_) | (with_reducible refine bo_alloc ?_ _) | (refine bchain ?_ (by with_reducible assumption)) | (with_reducible refine Below.setCell ?_ ?_ _) | go_size))⟩
/-- A clock: what it captured is the time that it shows. -/
theorem implClockAt (now : Int) (w : World) : Calls Try.prog 28 #[.int .i64 now] w fun x w' => x = .returned (.func (.func 38) #[] #[.pointer (some ⟨w.heap.size, 0, none⟩)]) ∧ RowIs w' w.heap.size 2 [.int .i64 now] ∧ Below w.heap.size w w' := by
  go_enter Try.func28, Try.ntmps28
  go_wp2_with fail
  go_ret
  exact ⟨rfl, rowIs_new w 2 [.int .i64 now], (by repeat' (first | (with_reducible exact Below.refl _ _) | (with_reducible refine Below.drew ?_) | (with_reducible refine bo_drewN _ ?_) | (with_reducible refine bo_alloc ?_ _) | (refine bchain ?_ (by with_reducible assumption)) | (with_reducible refine Below.setCell ?_ ?_ _) | go_size))⟩
theorem implClock (now : Int) (k : Nat) (w : World) (h : w.cell? ⟨k, 0, none⟩ = some (.int .i64 now)) : Calls Try.prog 38 #[.pointer (some ⟨k, 0, none⟩)] w fun x w' => x = .returned (.int .i64 now) ∧ w' = w := by
  go_enter Try.func38, Try.ntmps38
  go_wp2_with fail
  go_ret
  exact ⟨rfl, rfl⟩
set_option maxHeartbeats 1000000 in
theorem fillNo (r m l a now : Int) (g k : Nat) (w : World) (hk : okBk ⟨r, m, l, a⟩ = true) (R : RowIs w g 50 [.int .i64 r, .int .i64 m, .int .i64 l, .int .i64 a, (.func (.func 38) #[] #[.pointer (some ⟨k, 0, none⟩)])]) (hc : w.cell? ⟨k, 0, none⟩ = some (.int .i64 now)) (hn : inB now a 1000000 = false) :
    Calls Try.prog 29 #[.pointer (some ⟨g, 0, none⟩)] w fun x w' => x = .returned (.bool false) ∧ w' = w.drewN 1 := by
  have x0 := RowIs.cell (j := 0) R rfl; have x1 := RowIs.cell (j := 1) R rfl; have x2 := RowIs.cell (j := 2) R rfl; have x3 := RowIs.cell (j := 3) R rfl; have x9 := fun j => RowIs.frozen R j; have x8 := R.lt; have x4 := RowIs.cell (j := 4) R rfl
  go_enter Try.func29, Try.ntmps29
  go_wp2_with fail
  refine wp_region_held_drew (S := (fun u => u.cell? ⟨g, 4, none⟩ = some (.func (.func 38) #[] #[.pointer (some ⟨k, 0, none⟩)]) ∧ u.cell? ⟨k, 0, none⟩ = some (.int .i64 now))) (by kernel_rfl) (And.intro x4 hc) (fun hS => ?_)
  refine wpAnyH_take (i := 0) (v := ?_) rfl (by kernel_rfl) (by kernel_rfl) (by kernel_rfl) (fun _ _ _ h => h) (Or.inl ⟨by kernel_rfl, ?_⟩) hS ?_; rotate_left; focus (intro uu hu; clear hu; go_simp; try with_reducible rfl)
  refine wpAnyH_take (i := 1) (v := ?_) rfl (by kernel_rfl) (by kernel_rfl) (by kernel_rfl) (fun _ _ _ h => h) (Or.inl ⟨by kernel_rfl, ?_⟩) hS ?_; rotate_left; focus (intro uu hu; clear hu; go_simp; try with_reducible rfl)
  refine wpAnyH_take (i := 2) (v := ?_) rfl (by kernel_rfl) (by kernel_rfl) (by kernel_rfl) (fun _ _ _ h => h) (Or.inl ⟨by kernel_rfl, ?_⟩) hS ?_; rotate_left; focus (intro uu hu; clear hu; go_simp; try with_reducible rfl)
  refine wpAnyH_take (i := 3) (v := ?_) rfl (by kernel_rfl) (by kernel_rfl) (by kernel_rfl) (fun _ _ _ h => h) (Or.inl ⟨by kernel_rfl, ?_⟩) hS ?_; rotate_left; focus (intro uu hu; clear hu; go_simp; try with_reducible rfl)
  refine wpAnyH_take (i := 4) (v := ?_) rfl (by kernel_rfl) (by kernel_rfl) (by kernel_rfl) (fun _ _ _ h => h) (Or.inl ⟨by kernel_rfl, ?_⟩) hS ?_; rotate_left; focus (intro uu hu; clear hu; go_simp; try with_reducible rfl)
  refine wpAnyH_take (i := 5) (v := ?_) rfl (by kernel_rfl) (by kernel_rfl) (by kernel_rfl) (fun _ _ _ h => h) (Or.inl ⟨by kernel_rfl, ?_⟩) hS ?_; rotate_left; focus (intro uu hu; clear hu; go_simp; try with_reducible rfl)
  refine wpAnyH_take (i := 6) (v := (.func (.func 38) #[] #[.pointer (some ⟨k, 0, none⟩)])) rfl (by kernel_rfl) (by kernel_rfl) (by kernel_rfl) (fun _ _ _ h => h) (Or.inl ⟨by kernel_rfl, ?ld⟩) hS ?_; case ld => (intro uu hu; have hu2 := hu; obtain ⟨l0, l1⟩ := hu2; clear hu; go_simp)
  refine wpAnyH_ready (rs := [7]) (by kernel_rfl) (by simp) ?_
  refine (AllReadyH.cons rfl (fun K hK => ?_) AllReadyH.nil)
  rw [if_pos (by kernel_rfl)]
  go_simp
  refine (implClock now k _ hS.2).mono ?_; rintro e u1 ⟨rfl, hsame⟩; obtain rfl := hsame.symm; clear hsame
  refine hK.out _ _ hS (fun hS => ?_)
  clear hK K
  refine wpAnyH_take (i := 8) (v := ?_) rfl (by kernel_rfl) (by kernel_rfl) (by kernel_rfl) (fun _ _ _ h => h) (Or.inl ⟨by kernel_rfl, ?_⟩) hS ?_; rotate_left; focus (intro uu hu; clear hu; go_simp; try with_reducible rfl)
  refine wpAnyH_take (i := 9) (v := ?_) rfl (by kernel_rfl) (by kernel_rfl) (by kernel_rfl) (fun _ _ _ h => h) (Or.inl ⟨by kernel_rfl, ?_⟩) hS ?_; rotate_left; focus (intro uu hu; clear hu; go_simp; try with_reducible rfl)
  refine wpAnyH_done (by kernel_rfl) ?_ _
  skip
  clear hS
  have e9 : World.drew w = w.drewN 1 := rfl
  go_wp2_with fail
  refine (implWithin _ _ _ _).mono ?_; rw [hn]; rintro e w1 ⟨rfl, hsame⟩; obtain rfl := hsame.symm; clear hsame
  go_wp2_with fail
  go_ret
  exact ⟨rfl, rfl⟩
set_option maxHeartbeats 1000000 in
theorem fillYes (r m l a now : Int) (g k : Nat) (w : World) (hk : okBk ⟨r, m, l, a⟩ = true) (R : RowIs w g 50 [.int .i64 r, .int .i64 m, .int .i64 l, .int .i64 a, (.func (.func 38) #[] #[.pointer (some ⟨k, 0, none⟩)])]) (hc : w.cell? ⟨k, 0, none⟩ = some (.int .i64 now)) (hn : inB now a 1000000 = true) :
    Calls Try.prog 29 #[.pointer (some ⟨g, 0, none⟩)] w fun x w' => x = .returned (.bool true) ∧ RowIs w' g 50 [.int .i64 r, .int .i64 m, .int .i64 (lvV ⟨r, m, l, a⟩ now), .int .i64 now, (.func (.func 38) #[] #[.pointer (some ⟨k, 0, none⟩)])] ∧ Below g w w' := by
  obtain ⟨n0, n1⟩ := inB_true hn
  obtain ⟨p0, p1⟩ := rise_bd hk n0 n1
  obtain ⟨⟨r0, r1⟩, ⟨m0, m1⟩, ⟨l0, l1⟩, a0, a1⟩ := okBk_true hk
  obtain ⟨v, hv⟩ : ∃ v, lvV ⟨r, m, l, a⟩ now = v := ⟨_, rfl⟩
  rw [hv]
  unfold lvV at hv
  dsimp only at *
  have e1 : IntKind.i64.wrap (now - a) = now - a := by rw [IntKind.wrap_i64]; omega
  obtain ⟨q, hq⟩ : ∃ q, r * (now - a) = q := ⟨_, rfl⟩
  rw [hq] at p0 p1 hv
  have e2 : IntKind.i64.wrap (r * (now - a)) = q := by rw [hq, IntKind.wrap_i64]; omega
  have e3 : IntKind.i64.wrap (l + q) = l + q := by rw [IntKind.wrap_i64]; omega
  have hmin := hv
  clear hq hk hv
  have x0 := RowIs.cell (j := 0) R rfl; have x1 := RowIs.cell (j := 1) R rfl; have x2 := RowIs.cell (j := 2) R rfl; have x3 := RowIs.cell (j := 3) R rfl; have x9 := fun j => RowIs.frozen R j; have x8 := R.lt; have x4 := RowIs.cell (j := 4) R rfl
  go_enter Try.func29, Try.ntmps29
  go_wp2_with fail
  refine wp_region_held_drew (S := (fun u => u.cell? ⟨g, 4, none⟩ = some (.func (.func 38) #[] #[.pointer (some ⟨k, 0, none⟩)]) ∧ u.cell? ⟨k, 0, none⟩ = some (.int .i64 now))) (by kernel_rfl) (And.intro x4 hc) (fun hS => ?_)
  refine wpAnyH_take (i := 0) (v := ?_) rfl (by kernel_rfl) (by kernel_rfl) (by kernel_rfl) (fun _ _ _ h => h) (Or.inl ⟨by kernel_rfl, ?_⟩) hS ?_; rotate_left; focus (intro uu hu; clear hu; go_simp; try with_reducible rfl)
  refine wpAnyH_take (i := 1) (v := ?_) rfl (by kernel_rfl) (by kernel_rfl) (by kernel_rfl) (fun _ _ _ h => h) (Or.inl ⟨by kernel_rfl, ?_⟩) hS ?_; rotate_left; focus (intro uu hu; clear hu; go_simp; try with_reducible rfl)
  refine wpAnyH_take (i := 2) (v := ?_) rfl (by kernel_rfl) (by kernel_rfl) (by kernel_rfl) (fun _ _ _ h => h) (Or.inl ⟨by kernel_rfl, ?_⟩) hS ?_; rotate_left; focus (intro uu hu; clear hu; go_simp; try with_reducible rfl)
  refine wpAnyH_take (i := 3) (v := ?_) rfl (by kernel_rfl) (by kernel_rfl) (by kernel_rfl) (fun _ _ _ h => h) (Or.inl ⟨by kernel_rfl, ?_⟩) hS ?_; rotate_left; focus (intro uu hu; clear hu; go_simp; try with_reducible rfl)
  refine wpAnyH_take (i := 4) (v := ?_) rfl (by kernel_rfl) (by kernel_rfl) (by kernel_rfl) (fun _ _ _ h => h) (Or.inl ⟨by kernel_rfl, ?_⟩) hS ?_; rotate_left; focus (intro uu hu; clear hu; go_simp; try with_reducible rfl)
  refine wpAnyH_take (i := 5) (v := ?_) rfl (by kernel_rfl) (by kernel_rfl) (by kernel_rfl) (fun _ _ _ h => h) (Or.inl ⟨by kernel_rfl, ?_⟩) hS ?_; rotate_left; focus (intro uu hu; clear hu; go_simp; try with_reducible rfl)
  refine wpAnyH_take (i := 6) (v := (.func (.func 38) #[] #[.pointer (some ⟨k, 0, none⟩)])) rfl (by kernel_rfl) (by kernel_rfl) (by kernel_rfl) (fun _ _ _ h => h) (Or.inl ⟨by kernel_rfl, ?ld⟩) hS ?_; case ld => (intro uu hu; have hu2 := hu; obtain ⟨l0, l1⟩ := hu2; clear hu; go_simp)
  refine wpAnyH_ready (rs := [7]) (by kernel_rfl) (by simp) ?_
  refine (AllReadyH.cons rfl (fun K hK => ?_) AllReadyH.nil)
  rw [if_pos (by kernel_rfl)]
  go_simp
  refine (implClock now k _ hS.2).mono ?_; rintro e u1 ⟨rfl, hsame⟩; obtain rfl := hsame.symm; clear hsame
  refine hK.out _ _ hS (fun hS => ?_)
  clear hK K
  refine wpAnyH_take (i := 8) (v := ?_) rfl (by kernel_rfl) (by kernel_rfl) (by kernel_rfl) (fun _ _ _ h => h) (Or.inl ⟨by kernel_rfl, ?_⟩) hS ?_; rotate_left; focus (intro uu hu; clear hu; go_simp; try with_reducible rfl)
  refine wpAnyH_take (i := 9) (v := ?_) rfl (by kernel_rfl) (by kernel_rfl) (by kernel_rfl) (fun _ _ _ h => h) (Or.inl ⟨by kernel_rfl, ?_⟩) hS ?_; rotate_left; focus (intro uu hu; clear hu; go_simp; try with_reducible rfl)
  refine wpAnyH_done (by kernel_rfl) ?_ _
  skip
  clear hS
  have e9 : World.drew w = w.drewN 1 := rfl
  go_wp2_with fail
  refine (implWithin _ _ _ _).mono ?_; rw [hn]; rintro e w1 ⟨rfl, hsame⟩; obtain rfl := hsame.symm; clear hsame
  go_wp2_with fail
  refine wp_region_held_drew (S := (fun u => u.cell? ⟨g, 0, none⟩ = some (.int .i64 r) ∧ u.cell? ⟨g, 1, none⟩ = some (.int .i64 m) ∧ u.cell? ⟨g, 3, none⟩ = some (.int .i64 a))) (by kernel_rfl) (And.intro x0 (And.intro x1 x3)) (fun hS => ?_)
  refine wpAnyH_take (i := 0) (v := ?_) rfl (by kernel_rfl) (by kernel_rfl) (by kernel_rfl) (fun _ _ _ h => h) (Or.inl ⟨by kernel_rfl, ?_⟩) hS ?_; rotate_left; focus (intro uu hu; clear hu; go_simp; try with_reducible rfl)
  refine wpAnyH_take (i := 1) (v := ?_) rfl (by kernel_rfl) (by kernel_rfl) (by kernel_rfl) (fun _ _ _ h => h) (Or.inl ⟨by kernel_rfl, ?_⟩) hS ?_; rotate_left; focus (intro uu hu; clear hu; go_simp; try with_reducible rfl)
  refine wpAnyH_take (i := 2) (v := ?_) rfl (by kernel_rfl) (by kernel_rfl) (by kernel_rfl) (fun _ _ _ h => h) (Or.inl ⟨by kernel_rfl, ?_⟩) hS ?_; rotate_left; focus (intro uu hu; clear hu; go_simp; try with_reducible rfl)
  refine wpAnyH_take (i := 3) (v := ?_) rfl (by kernel_rfl) (by kernel_rfl) (by kernel_rfl) (fun _ _ _ h => h) (Or.inl ⟨by kernel_rfl, ?_⟩) hS ?_; rotate_left; focus (intro uu hu; clear hu; go_simp; try with_reducible rfl)
  refine wpAnyH_take (i := 5) (v := ?_) rfl (by kernel_rfl) (by kernel_rfl) (by kernel_rfl) (fun _ _ _ h => h) (Or.inl ⟨by kernel_rfl, ?_⟩) hS ?_; rotate_left; focus (intro uu hu; clear hu; go_simp; try with_reducible rfl)
  refine wpAnyH_take (i := 6) (v := ?_) rfl (by kernel_rfl) (by kernel_rfl) (by kernel_rfl) (fun _ _ _ h => h) (Or.inl ⟨by kernel_rfl, ?_⟩) hS ?_; rotate_left; focus (intro uu hu; clear hu; go_simp; try with_reducible rfl)
  refine wpAnyH_take (i := 7) (v := ?_) rfl (by kernel_rfl) (by kernel_rfl) (by kernel_rfl) (fun _ _ _ h => h) (Or.inl ⟨by kernel_rfl, ?_⟩) hS ?_; rotate_left; focus (intro uu hu; clear hu; go_simp; try with_reducible rfl)
  refine wpAnyH_take (i := 8) (v := .int .i64 r) rfl (by kernel_rfl) (by kernel_rfl) (by kernel_rfl) (fun _ _ _ h => h) (Or.inl ⟨by kernel_rfl, ?ld⟩) hS ?_; case ld => (intro uu hu; have hu2 := hu; obtain ⟨l0, l1, l3⟩ := hu2; clear hu; go_simp)
  refine wpAnyH_take (i := 9) (v := ?_) rfl (by kernel_rfl) (by kernel_rfl) (by kernel_rfl) (fun _ _ _ h => h) (Or.inl ⟨by kernel_rfl, ?_⟩) hS ?_; rotate_left; focus (intro uu hu; clear hu; go_simp; try with_reducible rfl)
  refine wpAnyH_take (i := 10) (v := ?_) rfl (by kernel_rfl) (by kernel_rfl) (by kernel_rfl) (fun _ _ _ h => h) (Or.inl ⟨by kernel_rfl, ?_⟩) hS ?_; rotate_left; focus (intro uu hu; clear hu; go_simp; try with_reducible rfl)
  refine wpAnyH_take (i := 11) (v := ?_) rfl (by kernel_rfl) (by kernel_rfl) (by kernel_rfl) (fun _ _ _ h => h) (Or.inl ⟨by kernel_rfl, ?_⟩) hS ?_; rotate_left; focus (intro uu hu; clear hu; go_simp; try with_reducible rfl)
  refine wpAnyH_take (i := 12) (v := ?_) rfl (by kernel_rfl) (by kernel_rfl) (by kernel_rfl) (fun _ _ _ h => h) (Or.inl ⟨by kernel_rfl, ?_⟩) hS ?_; rotate_left; focus (intro uu hu; clear hu; go_simp; try with_reducible rfl)
  refine wpAnyH_take (i := 13) (v := .int .i64 a) rfl (by kernel_rfl) (by kernel_rfl) (by kernel_rfl) (fun _ _ _ h => h) (Or.inl ⟨by kernel_rfl, ?ld⟩) hS ?_; case ld => (intro uu hu; have hu2 := hu; obtain ⟨l0, l1, l3⟩ := hu2; clear hu; go_simp)
  refine wpAnyH_take (i := 14) (v := .int .i64 (now - a)) rfl (by kernel_rfl) (by kernel_rfl) (by kernel_rfl) (fun _ _ _ h => h) (Or.inl ⟨by kernel_rfl, ?ld⟩) hS ?_; case ld => (intro uu hu; clear hu; go_simp)
  refine wpAnyH_take (i := 15) (v := .int .i64 q) rfl (by kernel_rfl) (by kernel_rfl) (by kernel_rfl) (fun _ _ _ h => h) (Or.inl ⟨by kernel_rfl, ?ld⟩) hS ?_; case ld => (intro uu hu; clear hu; go_simp)
  refine wpAnyH_take (i := 17) (v := ?_) rfl (by kernel_rfl) (by kernel_rfl) (by kernel_rfl) (fun _ _ _ h => h) (Or.inl ⟨by kernel_rfl, ?_⟩) hS ?_; rotate_left; focus (intro uu hu; clear hu; go_simp; try with_reducible rfl)
  refine wpAnyH_take (i := 18) (v := ?_) rfl (by kernel_rfl) (by kernel_rfl) (by kernel_rfl) (fun _ _ _ h => h) (Or.inl ⟨by kernel_rfl, ?_⟩) hS ?_; rotate_left; focus (intro uu hu; clear hu; go_simp; try with_reducible rfl)
  refine wpAnyH_take (i := 19) (v := ?_) rfl (by kernel_rfl) (by kernel_rfl) (by kernel_rfl) (fun _ _ _ h => h) (Or.inl ⟨by kernel_rfl, ?_⟩) hS ?_; rotate_left; focus (intro uu hu; clear hu; go_simp; try with_reducible rfl)
  refine wpAnyH_take (i := 20) (v := .int .i64 m) rfl (by kernel_rfl) (by kernel_rfl) (by kernel_rfl) (fun _ _ _ h => h) (Or.inl ⟨by kernel_rfl, ?ld⟩) hS ?_; case ld => (intro uu hu; have hu2 := hu; obtain ⟨l0, l1, l3⟩ := hu2; clear hu; go_simp)
  refine wpAnyH_ready (rs := [4]) (by kernel_rfl) (by simp) ?_
  refine (AllReadyH.cons rfl (fun K hK => ?_) AllReadyH.nil)
  rw [if_pos (by kernel_rfl)]
  go_simp
  refine hK.out _ _ hS (fun hS => ?_)
  clear hK K
  refine wpAnyH_take (i := 16) (v := .int .i64 (l + q)) rfl (by kernel_rfl) (by kernel_rfl) (by kernel_rfl) (fun _ _ _ h => h) (Or.inl ⟨by kernel_rfl, ?ld⟩) hS ?_; case ld => (intro uu hu; clear hu; go_simp)
  refine wpAnyH_take (i := 21) (v := .int .i64 v) rfl (by kernel_rfl) (by kernel_rfl) (by kernel_rfl) (fun _ _ _ h => h) (Or.inl ⟨by kernel_rfl, ?ld⟩) hS ?_; case ld => (intro uu hu; clear hu; go_simp)
  refine wpAnyH_take (i := 22) (v := ?_) rfl (by kernel_rfl) (by kernel_rfl) (by kernel_rfl) (fun _ _ _ h => h) (Or.inl ⟨by kernel_rfl, ?_⟩) hS ?_; rotate_left; focus (intro uu hu; clear hu; go_simp; try with_reducible rfl)
  refine wpAnyH_take (i := 23) (v := ?_) rfl (by kernel_rfl) (by kernel_rfl) (by kernel_rfl) (fun _ _ _ h => h) (Or.inl ⟨by kernel_rfl, ?_⟩) hS ?_; rotate_left; focus (intro uu hu; clear hu; go_simp; try with_reducible rfl)
  refine wpAnyH_ready (rs := [24]) (by kernel_rfl) (by simp) ?_
  refine (AllReadyH.cons rfl (fun K hK => ?_) AllReadyH.nil)
  rw [if_pos (by kernel_rfl)]
  go_simp
  have R2 := hide (R.set 2 (.int .i64 v))
  refine hK.out _ _ (And.intro (R2.out.cell (j := 0) rfl) (And.intro (R2.out.cell (j := 1) rfl) (R2.out.cell (j := 3) rfl))) (fun hS => ?_)
  clear hK K hS
  refine wpAnyH_done (by kernel_rfl) ?_ _
  skip
  go_wp2_with fail
  go_ret
  exact ⟨rfl, R2.out.set 3 (.int .i64 now), (((Below.refl g w).drew.drew).setCell (p := ⟨g, 2, none⟩) (Nat.le_refl _) _).setCell (p := ⟨g, 3, none⟩) (Nat.le_refl _) _⟩
set_option maxHeartbeats 1000000 in
theorem implFilled (b : Bk) (now : Int) (w : World) : Calls Try.prog 11 #[bv b, .int .i64 now] w fun x w' => x = .returned (bv (filV b now)) ∧ Below w.heap.size w w' := by
  obtain ⟨r, m, l, a⟩ := b
  cases hk : okBk ⟨r, m, l, a⟩
  · have hv : filV ⟨r, m, l, a⟩ now = zBk := by unfold filV; rw [if_pos hk]
    rw [hv]
    dsimp only [zBk]
    dsimp only [bv]
    go_enter Try.func11, Try.ntmps11
    go_wp2_with fail
    have R1 : RowIs _ w.heap.size 25 [.int .i64 r, .int .i64 m, .int .i64 l, .int .i64 a] := (rowIs_new w 25 [.int .i64 r, .int .i64 m, .int .i64 l, .int .i64 a]).alloc (.cells #[.int .i64 0, .int .i64 0, .int .i64 0, .int .i64 0] 25)
    have R2 : RowIs ((w.alloc (.cells #[.int .i64 r, .int .i64 m, .int .i64 l, .int .i64 a] 25)).alloc (.cells #[.int .i64 0, .int .i64 0, .int .i64 0, .int .i64 0] 25)) (w.heap.size + 1) 25 [.int .i64 0, .int .i64 0, .int .i64 0, .int .i64 0] := by have := rowIs_new (w.alloc (.cells #[.int .i64 r, .int .i64 m, .int .i64 l, .int .i64 a] 25)) 25 [.int .i64 0, .int .i64 0, .int .i64 0, .int .i64 0]; simpa using this
    have b0 : Below w.heap.size w ((w.alloc (.cells #[.int .i64 r, .int .i64 m, .int .i64 l, .int .i64 a] 25)).alloc (.cells #[.int .i64 0, .int .i64 0, .int .i64 0, .int .i64 0] 25)) := ((Below.refl _ _).alloc (Nat.le_refl _) _).alloc (by simp) _
    refine (implRight ⟨r, m, l, a⟩ _).mono ?_; rintro e w1 ⟨rfl, hb1⟩; rw [hk]
    replace R1 := R1.new hb1
    replace R2 := R2.new hb1
    replace b0 := b0.trans (hb1.mono (by simp; omega))
    clear hb1
    have y0 := RowIs.cell (j := 0) R2 rfl; have y1 := RowIs.cell (j := 1) R2 rfl; have y2 := RowIs.cell (j := 2) R2 rfl; have y3 := RowIs.cell (j := 3) R2 rfl; have y9 := fun j => RowIs.frozen R2 j; have y8 := R2.lt
    go_wp2_with fail
    refine bodyPost_ret (v := .agg #[.int .i64 0, .int .i64 0, .int .i64 0, .int .i64 0]) (by simp [results, Try.results11, go_sem, *]) rfl ?_
    refine ⟨rfl, ?_⟩
    repeat' (first | (with_reducible exact b0) | (with_reducible refine Below.setCell ?_ ?_ _) | (with_reducible refine Below.alloc ?_ ?_ _) | (with_reducible refine Below.drew ?_) | (with_reducible refine bo_drewN _ ?_) | omega | (simp; done) | (simp; omega))
  dsimp only [bv]
  go_enter Try.func11, Try.ntmps11
  go_wp2_with fail
  have R1 : RowIs _ w.heap.size 25 [.int .i64 r, .int .i64 m, .int .i64 l, .int .i64 a] := (rowIs_new w 25 [.int .i64 r, .int .i64 m, .int .i64 l, .int .i64 a]).alloc (.cells #[.int .i64 0, .int .i64 0, .int .i64 0, .int .i64 0] 25)
  have R2 : RowIs ((w.alloc (.cells #[.int .i64 r, .int .i64 m, .int .i64 l, .int .i64 a] 25)).alloc (.cells #[.int .i64 0, .int .i64 0, .int .i64 0, .int .i64 0] 25)) (w.heap.size + 1) 25 [.int .i64 0, .int .i64 0, .int .i64 0, .int .i64 0] := by have := rowIs_new (w.alloc (.cells #[.int .i64 r, .int .i64 m, .int .i64 l, .int .i64 a] 25)) 25 [.int .i64 0, .int .i64 0, .int .i64 0, .int .i64 0]; simpa using this
  have b0 : Below w.heap.size w ((w.alloc (.cells #[.int .i64 r, .int .i64 m, .int .i64 l, .int .i64 a] 25)).alloc (.cells #[.int .i64 0, .int .i64 0, .int .i64 0, .int .i64 0] 25)) := ((Below.refl _ _).alloc (Nat.le_refl _) _).alloc (by simp) _
  refine (implRight ⟨r, m, l, a⟩ _).mono ?_; rintro e w1 ⟨rfl, hb1⟩; rw [hk]
  replace R1 := R1.new hb1
  replace R2 := R2.new hb1
  replace b0 := b0.trans (hb1.mono (by simp; omega))
  clear hb1
  have x0 := RowIs.cell (j := 0) R1 rfl; have x1 := RowIs.cell (j := 1) R1 rfl; have x2 := RowIs.cell (j := 2) R1 rfl; have x3 := RowIs.cell (j := 3) R1 rfl; have x9 := fun j => RowIs.frozen R1 j; have x8 := R1.lt
  have z1 := R2.lt
  go_upto_region 3 with fail
  clear x0 x1 x2 x3 x9 x8
  go_cut [5] (fun x wc => ∃ g k, x = .pointer (some ⟨g, 0, none⟩) ∧ w1.heap.size ≤ g ∧ RowIs wc g 50 [.int .i64 r, .int .i64 m, .int .i64 l, .int .i64 a, (.func (.func 38) #[] #[.pointer (some ⟨k, 0, none⟩)])] ∧ wc.cell? ⟨k, 0, none⟩ = some (.int .i64 now) ∧ Below w1.heap.size w1 wc)
  case first =>
    go_wp2_with fail
    refine wp_region_held_drew (S := (fun u => Below w1.heap.size w1 u)) (by kernel_rfl) ((Below.refl _ _).drew) (fun hS => ?_)
    generalize World.drew w1 = w9 at hS ⊢
    refine wpAnyH_take (i := 0) (v := .agg #[.int .i64 r, .int .i64 m, .int .i64 l, .int .i64 a]) rfl (by kernel_rfl) (by kernel_rfl) (by kernel_rfl) (fun _ _ _ h => h) (Or.inl ⟨by kernel_rfl, ?ld⟩) hS ?_; case ld => (intro uu hu; have R := R1.new hu; have x0 := RowIs.cell (j := 0) R rfl; have x1 := RowIs.cell (j := 1) R rfl; have x2 := RowIs.cell (j := 2) R rfl; have x3 := RowIs.cell (j := 3) R rfl; have x9 := fun j => RowIs.frozen R j; have x8 := R.lt; clear hu; go_simp)
    try simp only [Act.put, List.getElem_toArray, List.getElem_cons_succ, List.getElem_cons_zero, List.setIfInBounds_toArray, List.set_cons_zero, List.set_cons_succ]
    refine wpAnyH_take (i := 1) (v := ?_) rfl (by kernel_rfl) (by kernel_rfl) (by kernel_rfl) (fun _ _ _ h => h) (Or.inl ⟨by kernel_rfl, ?_⟩) hS ?_; rotate_left; focus (intro uu hu; clear hu; go_simp; try with_reducible rfl)
    try simp only [Act.put, List.getElem_toArray, List.getElem_cons_succ, List.getElem_cons_zero, List.setIfInBounds_toArray, List.set_cons_zero, List.set_cons_succ]
    refine wpAnyH_ready (rs := [2, 4]) (by kernel_rfl) (by simp) ?_
    refine (AllReadyH.cons rfl (fun K hK => ?_) (AllReadyH.cons rfl (fun K hK => ?_) AllReadyH.nil))
    · skip
      rw [if_pos (by kernel_rfl)]
      go_simp
      refine (implClockAt now _).mono ?_; rintro e u1 ⟨rfl, hru1, hbu1⟩
      have HC := hide hru1
      obtain ⟨k, hku1⟩ : ∃ k, k = w9.heap.size := ⟨_, rfl⟩
      rw [← hku1] at HC
      have hkl : w1.heap.size ≤ k := by have := hS.size; omega
      try (have hne : k ≠ g := by have := HT.out.lt; omega)
      rw [← hku1]
      clear hku1 hru1
      refine hK.out _ _ (bchain hS hbu1) (fun hS => ?_)
      clear hK K
      try simp only [Act.put, List.getElem_toArray, List.getElem_cons_succ, List.getElem_cons_zero, List.setIfInBounds_toArray, List.set_cons_zero, List.set_cons_succ]
      refine wpAnyH_take (i := 3) (v := .agg #[.int .i64 r, .int .i64 m, .int .i64 l, .int .i64 a, (.func (.func 38) #[] #[.pointer (some ⟨k, 0, none⟩)])]) rfl (by kernel_rfl) (by kernel_rfl) (by kernel_rfl) (fun _ _ _ h => h) (Or.inl ⟨by kernel_rfl, ?ld⟩) hS ?_; case ld => (intro uu hu; clear hu; go_simp)
      try simp only [Act.put, List.getElem_toArray, List.getElem_cons_succ, List.getElem_cons_zero, List.setIfInBounds_toArray, List.set_cons_zero, List.set_cons_succ]
      refine wpAnyH_ready (rs := [4]) (by kernel_rfl) (by simp) ?_
      refine (AllReadyH.cons rfl (fun K hK => ?_) AllReadyH.nil)
      rw [if_pos (by kernel_rfl)]
      go_simp
      obtain ⟨u2, hu2⟩ : ∃ u, u1.alloc (.cells #[.int .i64 0, .int .i64 0, .int .i64 0, .int .i64 0, .nilFunc] 50) = u := ⟨_, rfl⟩
      have hbu2 : Below u1.heap.size u1 u2 := by rw [← hu2]; exact (Below.refl _ _).alloc (Nat.le_refl _) _
      obtain ⟨g, hgu2⟩ : ∃ g, g = u1.heap.size := ⟨_, rfl⟩
      have HT : Hid (RowIs u2 g 50 [.int .i64 0, .int .i64 0, .int .i64 0, .int .i64 0, .nilFunc]) := by show _; rw [← hu2, hgu2]; exact rowIs_new _ _ _
      have hgl : w1.heap.size ≤ g := by have := hS.size; omega
      try (have hne : k ≠ g := by have := HC.out.lt; omega)
      replace HC := hide (HC.out.new hbu2)
      rw [hu2, ← hgu2]
      clear hu2 hgu2
      refine hK.out _ _ (bchain hS hbu2) (fun hS => ?_)
      clear hK K hbu2
      try simp only [Act.put, List.getElem_toArray, List.getElem_cons_succ, List.getElem_cons_zero, List.setIfInBounds_toArray, List.set_cons_zero, List.set_cons_succ]
      refine wpAnyH_ready (rs := [5]) (by kernel_rfl) (by simp) ?_
      refine (AllReadyH.cons rfl (fun K hK => ?_) AllReadyH.nil)
      rw [if_pos (by kernel_rfl)]
      have R5 := hide (rowIs_setRow (cs' := [.int .i64 r, .int .i64 m, .int .i64 l, .int .i64 a, (.func (.func 38) #[] #[.pointer (some ⟨k, 0, none⟩)])]) HT.out)
      have C5 := hide (HC.out.kept (setRow_other u2 g #[.int .i64 r, .int .i64 m, .int .i64 l, .int .i64 a, (.func (.func 38) #[] #[.pointer (some ⟨k, 0, none⟩)])] k hne))
      have hS2 := below_setRow hS hgl #[.int .i64 r, .int .i64 m, .int .i64 l, .int .i64 a, (.func (.func 38) #[] #[.pointer (some ⟨k, 0, none⟩)])]
      refine wp_store_row 50 (.tmp 5) (.tmp 13) rfl g #[.int .i64 r, .int .i64 m, .int .i64 l, .int .i64 a, (.func (.func 38) #[] #[.pointer (some ⟨k, 0, none⟩)])] rfl rfl 50 #[.int .i64 0, .int .i64 0, .int .i64 0, .int .i64 0, .nilFunc] HT.out (by kernel_rfl) rfl (by simp [Value.oneCell']) ?_
      refine hK.out _ _ hS2 (fun hS => ?_)
      clear hK K hS
      try simp only [Act.put, List.getElem_toArray, List.getElem_cons_succ, List.getElem_cons_zero, List.setIfInBounds_toArray, List.set_cons_zero, List.set_cons_succ]
      refine wpAnyH_done (by kernel_rfl) ?_ _
      go_wp2_with fail
      go_meet
      exact ⟨g, k, rfl, hgl, R5.out, C5.out.cell (j := 0) rfl, hS2⟩
    · skip
      rw [if_pos (by kernel_rfl)]
      go_simp
      obtain ⟨u3, hu3⟩ : ∃ u, w9.alloc (.cells #[.int .i64 0, .int .i64 0, .int .i64 0, .int .i64 0, .nilFunc] 50) = u := ⟨_, rfl⟩
      have hbu3 : Below w9.heap.size w9 u3 := by rw [← hu3]; exact (Below.refl _ _).alloc (Nat.le_refl _) _
      obtain ⟨g, hgu3⟩ : ∃ g, g = w9.heap.size := ⟨_, rfl⟩
      have HT : Hid (RowIs u3 g 50 [.int .i64 0, .int .i64 0, .int .i64 0, .int .i64 0, .nilFunc]) := by show _; rw [← hu3, hgu3]; exact rowIs_new _ _ _
      have hgl : w1.heap.size ≤ g := by have := hS.size; omega
      try (have hne : k ≠ g := by have := HC.out.lt; omega)
      rw [hu3, ← hgu3]
      clear hu3 hgu3
      refine hK.out _ _ (bchain hS hbu3) (fun hS => ?_)
      clear hK K hbu3
      try simp only [Act.put, List.getElem_toArray, List.getElem_cons_succ, List.getElem_cons_zero, List.setIfInBounds_toArray, List.set_cons_zero, List.set_cons_succ]
      refine wpAnyH_ready (rs := [2]) (by kernel_rfl) (by simp) ?_
      refine (AllReadyH.cons rfl (fun K hK => ?_) AllReadyH.nil)
      rw [if_pos (by kernel_rfl)]
      go_simp
      refine (implClockAt now _).mono ?_; rintro e u4 ⟨rfl, hru4, hbu4⟩
      have HC := hide hru4
      obtain ⟨k, hku4⟩ : ∃ k, k = u3.heap.size := ⟨_, rfl⟩
      rw [← hku4] at HC
      have hkl : w1.heap.size ≤ k := by have := hS.size; omega
      try (have hne : k ≠ g := by have := HT.out.lt; omega)
      rw [← hku4]
      clear hku4 hru4
      replace HT := hide (HT.out.new hbu4)
      refine hK.out _ _ (bchain hS hbu4) (fun hS => ?_)
      clear hK K
      try simp only [Act.put, List.getElem_toArray, List.getElem_cons_succ, List.getElem_cons_zero, List.setIfInBounds_toArray, List.set_cons_zero, List.set_cons_succ]
      refine wpAnyH_take (i := 3) (v := .agg #[.int .i64 r, .int .i64 m, .int .i64 l, .int .i64 a, (.func (.func 38) #[] #[.pointer (some ⟨k, 0, none⟩)])]) rfl (by kernel_rfl) (by kernel_rfl) (by kernel_rfl) (fun _ _ _ h => h) (Or.inl ⟨by kernel_rfl, ?ld⟩) hS ?_; case ld => (intro uu hu; clear hu; go_simp)
      try simp only [Act.put, List.getElem_toArray, List.getElem_cons_succ, List.getElem_cons_zero, List.setIfInBounds_toArray, List.set_cons_zero, List.set_cons_succ]
      refine wpAnyH_ready (rs := [5]) (by kernel_rfl) (by simp) ?_
      refine (AllReadyH.cons rfl (fun K hK => ?_) AllReadyH.nil)
      rw [if_pos (by kernel_rfl)]
      have R5 := hide (rowIs_setRow (cs' := [.int .i64 r, .int .i64 m, .int .i64 l, .int .i64 a, (.func (.func 38) #[] #[.pointer (some ⟨k, 0, none⟩)])]) HT.out)
      have C5 := hide (HC.out.kept (setRow_other u4 g #[.int .i64 r, .int .i64 m, .int .i64 l, .int .i64 a, (.func (.func 38) #[] #[.pointer (some ⟨k, 0, none⟩)])] k hne))
      have hS2 := below_setRow hS hgl #[.int .i64 r, .int .i64 m, .int .i64 l, .int .i64 a, (.func (.func 38) #[] #[.pointer (some ⟨k, 0, none⟩)])]
      refine wp_store_row 50 (.tmp 5) (.tmp 13) rfl g #[.int .i64 r, .int .i64 m, .int .i64 l, .int .i64 a, (.func (.func 38) #[] #[.pointer (some ⟨k, 0, none⟩)])] rfl rfl 50 #[.int .i64 0, .int .i64 0, .int .i64 0, .int .i64 0, .nilFunc] HT.out (by kernel_rfl) rfl (by simp [Value.oneCell']) ?_
      refine hK.out _ _ hS2 (fun hS => ?_)
      clear hK K hS
      try simp only [Act.put, List.getElem_toArray, List.getElem_cons_succ, List.getElem_cons_zero, List.setIfInBounds_toArray, List.set_cons_zero, List.set_cons_succ]
      refine wpAnyH_done (by kernel_rfl) ?_ _
      go_wp2_with fail
      go_meet
      exact ⟨g, k, rfl, hgl, R5.out, C5.out.cell (j := 0) rfl, hS2⟩
  obtain ⟨g, k, rfl, hgl, R5, C5, hbc⟩ := hcut
  have R3 := R2.new hbc
  have b3 := b0.trans (hbc.mono (by have := b0.size; omega))
  clear hbc b0 R1 R2
  cases hn : inB now a 1000000
  · have hv : filV ⟨r, m, l, a⟩ now = ⟨r, m, l, a⟩ := by unfold filV; rw [if_neg (by rw [hk]; decide), if_pos hn]
    go_wp2_with fail
    refine (fillNo r m l a now g k _ hk R5 C5 hn).mono ?_; rintro e w4 ⟨rfl, rfl⟩
    have x0 := RowIs.cell (j := 0) R5 rfl; have x1 := RowIs.cell (j := 1) R5 rfl; have x2 := RowIs.cell (j := 2) R5 rfl; have x3 := RowIs.cell (j := 3) R5 rfl; have x9 := fun j => RowIs.frozen R5 j; have x8 := R5.lt; have x4 := RowIs.cell (j := 4) R5 rfl
    have y0 := RowIs.cell (j := 0) R3 rfl; have y1 := RowIs.cell (j := 1) R3 rfl; have y2 := RowIs.cell (j := 2) R3 rfl; have y3 := RowIs.cell (j := 3) R3 rfl; have y9 := fun j => RowIs.frozen R3 j; have y8 := R3.lt
    go_wp2_with fail
    refine bodyPost_ret (v := .agg #[.int .i64 r, .int .i64 m, .int .i64 l, .int .i64 a]) (by simp [results, Try.results11, go_sem, *]) rfl ?_
    refine ⟨by rw [hv], ?_⟩
    repeat' (first | (with_reducible exact b3) | (with_reducible refine Below.setCell ?_ ?_ _) | (with_reducible refine Below.alloc ?_ ?_ _) | (with_reducible refine Below.drew ?_) | (with_reducible refine bo_drewN _ ?_) | omega | (simp; done) | (simp; omega))
  · have hv : filV ⟨r, m, l, a⟩ now = fil ⟨r, m, l, a⟩ now := by unfold filV; rw [if_neg (by rw [hk]; decide), if_neg (by rw [hn]; decide)]
    unfold fil at hv
    dsimp only at hv
    go_wp2_with fail
    refine (fillYes r m l a now g k _ hk R5 C5 hn).mono ?_; rintro e w4 ⟨rfl, R6, hb4⟩
    generalize lvV ⟨r, m, l, a⟩ now = v at *
    replace R3 := R3.kept (hb4.block _ (by omega))
    replace b3 := b3.trans (hb4.mono (by have := b3.size; omega))
    clear hb4 R5 C5
    have x0 := RowIs.cell (j := 0) R6 rfl; have x1 := RowIs.cell (j := 1) R6 rfl; have x2 := RowIs.cell (j := 2) R6 rfl; have x3 := RowIs.cell (j := 3) R6 rfl; have x9 := fun j => RowIs.frozen R6 j; have x8 := R6.lt; have x4 := RowIs.cell (j := 4) R6 rfl
    have y0 := RowIs.cell (j := 0) R3 rfl; have y1 := RowIs.cell (j := 1) R3 rfl; have y2 := RowIs.cell (j := 2) R3 rfl; have y3 := RowIs.cell (j := 3) R3 rfl; have y9 := fun j => RowIs.frozen R3 j; have y8 := R3.lt
    go_wp2_with fail
    refine bodyPost_ret (v := .agg #[.int .i64 r, .int .i64 m, .int .i64 v, .int .i64 now]) (by simp [results, Try.results11, go_sem, *]) rfl ?_
    refine ⟨by rw [hv], ?_⟩
    repeat' (first | (with_reducible exact b3) | (with_reducible refine Below.setCell ?_ ?_ _) | (with_reducible refine Below.alloc ?_ ?_ _) | (with_reducible refine Below.drew ?_) | (with_reducible refine bo_drewN _ ?_) | omega | (simp; done) | (simp; omega))
set_option maxHeartbeats 1000000 in
theorem implPoured (b : Bk) (now n : Int) (w : World) : Calls Try.prog 20 #[bv b, .int .i64 now, .int .i64 n] w fun x w' => x = .returned (.tuple #[bv (pouV b now n).1, .bool (pouV b now n).2]) ∧ Below w.heap.size w w' := by
  obtain ⟨r, m, l, a⟩ := b
  cases hk : okBk ⟨r, m, l, a⟩
  · have hv : pouV ⟨r, m, l, a⟩ now n = (zBk, false) := by unfold pouV; rw [if_pos hk]
    rw [hv]
    dsimp only [zBk]
    dsimp only [bv]
    go_enter Try.func20, Try.ntmps20
    go_wp2_with fail
    have R1 : RowIs _ w.heap.size 25 [.int .i64 r, .int .i64 m, .int .i64 l, .int .i64 a] := (rowIs_new w 25 [.int .i64 r, .int .i64 m, .int .i64 l, .int .i64 a]).alloc (.cells #[.int .i64 0, .int .i64 0, .int .i64 0, .int .i64 0] 25)
    have R2 : RowIs ((w.alloc (.cells #[.int .i64 r, .int .i64 m, .int .i64 l, .int .i64 a] 25)).alloc (.cells #[.int .i64 0, .int .i64 0, .int .i64 0, .int .i64 0] 25)) (w.heap.size + 1) 25 [.int .i64 0, .int .i64 0, .int .i64 0, .int .i64 0] := by have := rowIs_new (w.alloc (.cells #[.int .i64 r, .int .i64 m, .int .i64 l, .int .i64 a] 25)) 25 [.int .i64 0, .int .i64 0, .int .i64 0, .int .i64 0]; simpa using this
    have b0 : Below w.heap.size w ((w.alloc (.cells #[.int .i64 r, .int .i64 m, .int .i64 l, .int .i64 a] 25)).alloc (.cells #[.int .i64 0, .int .i64 0, .int .i64 0, .int .i64 0] 25)) := ((Below.refl _ _).alloc (Nat.le_refl _) _).alloc (by simp) _
    refine (implRight ⟨r, m, l, a⟩ _).mono ?_; rintro e w1 ⟨rfl, hb1⟩; rw [hk]
    replace R1 := R1.new hb1
    replace R2 := R2.new hb1
    replace b0 := b0.trans (hb1.mono (by simp; omega))
    clear hb1
    have y0 := RowIs.cell (j := 0) R2 rfl; have y1 := RowIs.cell (j := 1) R2 rfl; have y2 := RowIs.cell (j := 2) R2 rfl; have y3 := RowIs.cell (j := 3) R2 rfl; have y9 := fun j => RowIs.frozen R2 j; have y8 := R2.lt
    go_wp2_with fail
    refine bodyPost_ret (v := .tuple #[.agg #[.int .i64 0, .int .i64 0, .int .i64 0, .int .i64 0], .bool false]) (by simp [results, Try.results20, go_sem, *]) rfl ?_
    refine ⟨rfl, ?_⟩
    repeat' (first | (with_reducible exact b0) | (with_reducible refine Below.setCell ?_ ?_ _) | (with_reducible refine Below.alloc ?_ ?_ _) | (with_reducible refine Below.drew ?_) | (with_reducible refine bo_drewN _ ?_) | omega | (simp; done) | (simp; omega))
  dsimp only [bv]
  go_enter Try.func20, Try.ntmps20
  go_wp2_with fail
  have R1 : RowIs _ w.heap.size 25 [.int .i64 r, .int .i64 m, .int .i64 l, .int .i64 a] := (rowIs_new w 25 [.int .i64 r, .int .i64 m, .int .i64 l, .int .i64 a]).alloc (.cells #[.int .i64 0, .int .i64 0, .int .i64 0, .int .i64 0] 25)
  have R2 : RowIs ((w.alloc (.cells #[.int .i64 r, .int .i64 m, .int .i64 l, .int .i64 a] 25)).alloc (.cells #[.int .i64 0, .int .i64 0, .int .i64 0, .int .i64 0] 25)) (w.heap.size + 1) 25 [.int .i64 0, .int .i64 0, .int .i64 0, .int .i64 0] := by have := rowIs_new (w.alloc (.cells #[.int .i64 r, .int .i64 m, .int .i64 l, .int .i64 a] 25)) 25 [.int .i64 0, .int .i64 0, .int .i64 0, .int .i64 0]; simpa using this
  have b0 : Below w.heap.size w ((w.alloc (.cells #[.int .i64 r, .int .i64 m, .int .i64 l, .int .i64 a] 25)).alloc (.cells #[.int .i64 0, .int .i64 0, .int .i64 0, .int .i64 0] 25)) := ((Below.refl _ _).alloc (Nat.le_refl _) _).alloc (by simp) _
  refine (implRight ⟨r, m, l, a⟩ _).mono ?_; rintro e w1 ⟨rfl, hb1⟩; rw [hk]
  replace R1 := R1.new hb1
  replace R2 := R2.new hb1
  replace b0 := b0.trans (hb1.mono (by simp; omega))
  clear hb1
  have x0 := RowIs.cell (j := 0) R1 rfl; have x1 := RowIs.cell (j := 1) R1 rfl; have x2 := RowIs.cell (j := 2) R1 rfl; have x3 := RowIs.cell (j := 3) R1 rfl; have x9 := fun j => RowIs.frozen R1 j; have x8 := R1.lt
  have z1 := R2.lt
  go_upto_region 3 with fail
  clear x0 x1 x2 x3 x9 x8
  go_cut [8] (fun x wc => ∃ g k, x = .pointer (some ⟨g, 0, none⟩) ∧ w1.heap.size ≤ g ∧ RowIs wc g 50 [.int .i64 r, .int .i64 m, .int .i64 l, .int .i64 a, (.func (.func 38) #[] #[.pointer (some ⟨k, 0, none⟩)])] ∧ wc.cell? ⟨k, 0, none⟩ = some (.int .i64 now) ∧ Below w1.heap.size w1 wc)
  case first =>
    go_wp2_with fail
    refine wp_region_held_drew (S := (fun u => Below w1.heap.size w1 u)) (by kernel_rfl) ((Below.refl _ _).drew) (fun hS => ?_)
    generalize World.drew w1 = w9 at hS ⊢
    refine wpAnyH_take (i := 0) (v := .agg #[.int .i64 r, .int .i64 m, .int .i64 l, .int .i64 a]) rfl (by kernel_rfl) (by kernel_rfl) (by kernel_rfl) (fun _ _ _ h => h) (Or.inl ⟨by kernel_rfl, ?ld⟩) hS ?_; case ld => (intro uu hu; have R := R1.new hu; have x0 := RowIs.cell (j := 0) R rfl; have x1 := RowIs.cell (j := 1) R rfl; have x2 := RowIs.cell (j := 2) R rfl; have x3 := RowIs.cell (j := 3) R rfl; have x9 := fun j => RowIs.frozen R j; have x8 := R.lt; clear hu; go_simp)
    try simp only [Act.put, List.getElem_toArray, List.getElem_cons_succ, List.getElem_cons_zero, List.setIfInBounds_toArray, List.set_cons_zero, List.set_cons_succ]
    refine wpAnyH_take (i := 1) (v := ?_) rfl (by kernel_rfl) (by kernel_rfl) (by kernel_rfl) (fun _ _ _ h => h) (Or.inl ⟨by kernel_rfl, ?_⟩) hS ?_; rotate_left; focus (intro uu hu; clear hu; go_simp; try with_reducible rfl)
    try simp only [Act.put, List.getElem_toArray, List.getElem_cons_succ, List.getElem_cons_zero, List.setIfInBounds_toArray, List.set_cons_zero, List.set_cons_succ]
    refine wpAnyH_ready (rs := [2, 4]) (by kernel_rfl) (by simp) ?_
    refine (AllReadyH.cons rfl (fun K hK => ?_) (AllReadyH.cons rfl (fun K hK => ?_) AllReadyH.nil))
    · skip
      rw [if_pos (by kernel_rfl)]
      go_simp
      refine (implClockAt now _).mono ?_; rintro e u1 ⟨rfl, hru1, hbu1⟩
      have HC := hide hru1
      obtain ⟨k, hku1⟩ : ∃ k, k = w9.heap.size := ⟨_, rfl⟩
      rw [← hku1] at HC
      have hkl : w1.heap.size ≤ k := by have := hS.size; omega
      try (have hne : k ≠ g := by have := HT.out.lt; omega)
      rw [← hku1]
      clear hku1 hru1
      refine hK.out _ _ (bchain hS hbu1) (fun hS => ?_)
      clear hK K
      try simp only [Act.put, List.getElem_toArray, List.getElem_cons_succ, List.getElem_cons_zero, List.setIfInBounds_toArray, List.set_cons_zero, List.set_cons_succ]
      refine wpAnyH_take (i := 3) (v := .agg #[.int .i64 r, .int .i64 m, .int .i64 l, .int .i64 a, (.func (.func 38) #[] #[.pointer (some ⟨k, 0, none⟩)])]) rfl (by kernel_rfl) (by kernel_rfl) (by kernel_rfl) (fun _ _ _ h => h) (Or.inl ⟨by kernel_rfl, ?ld⟩) hS ?_; case ld => (intro uu hu; clear hu; go_simp)
      try simp only [Act.put, List.getElem_toArray, List.getElem_cons_succ, List.getElem_cons_zero, List.setIfInBounds_toArray, List.set_cons_zero, List.set_cons_succ]
      refine wpAnyH_ready (rs := [4]) (by kernel_rfl) (by simp) ?_
      refine (AllReadyH.cons rfl (fun K hK => ?_) AllReadyH.nil)
      rw [if_pos (by kernel_rfl)]
      go_simp
      obtain ⟨u2, hu2⟩ : ∃ u, u1.alloc (.cells #[.int .i64 0, .int .i64 0, .int .i64 0, .int .i64 0, .nilFunc] 50) = u := ⟨_, rfl⟩
      have hbu2 : Below u1.heap.size u1 u2 := by rw [← hu2]; exact (Below.refl _ _).alloc (Nat.le_refl _) _
      obtain ⟨g, hgu2⟩ : ∃ g, g = u1.heap.size := ⟨_, rfl⟩
      have HT : Hid (RowIs u2 g 50 [.int .i64 0, .int .i64 0, .int .i64 0, .int .i64 0, .nilFunc]) := by show _; rw [← hu2, hgu2]; exact rowIs_new _ _ _
      have hgl : w1.heap.size ≤ g := by have := hS.size; omega
      try (have hne : k ≠ g := by have := HC.out.lt; omega)
      replace HC := hide (HC.out.new hbu2)
      rw [hu2, ← hgu2]
      clear hu2 hgu2
      refine hK.out _ _ (bchain hS hbu2) (fun hS => ?_)
      clear hK K hbu2
      try simp only [Act.put, List.getElem_toArray, List.getElem_cons_succ, List.getElem_cons_zero, List.setIfInBounds_toArray, List.set_cons_zero, List.set_cons_succ]
      refine wpAnyH_ready (rs := [5]) (by kernel_rfl) (by simp) ?_
      refine (AllReadyH.cons rfl (fun K hK => ?_) AllReadyH.nil)
      rw [if_pos (by kernel_rfl)]
      have R5 := hide (rowIs_setRow (cs' := [.int .i64 r, .int .i64 m, .int .i64 l, .int .i64 a, (.func (.func 38) #[] #[.pointer (some ⟨k, 0, none⟩)])]) HT.out)
      have C5 := hide (HC.out.kept (setRow_other u2 g #[.int .i64 r, .int .i64 m, .int .i64 l, .int .i64 a, (.func (.func 38) #[] #[.pointer (some ⟨k, 0, none⟩)])] k hne))
      have hS2 := below_setRow hS hgl #[.int .i64 r, .int .i64 m, .int .i64 l, .int .i64 a, (.func (.func 38) #[] #[.pointer (some ⟨k, 0, none⟩)])]
      refine wp_store_row 50 (.tmp 8) (.tmp 16) rfl g #[.int .i64 r, .int .i64 m, .int .i64 l, .int .i64 a, (.func (.func 38) #[] #[.pointer (some ⟨k, 0, none⟩)])] rfl rfl 50 #[.int .i64 0, .int .i64 0, .int .i64 0, .int .i64 0, .nilFunc] HT.out (by kernel_rfl) rfl (by simp [Value.oneCell']) ?_
      refine hK.out _ _ hS2 (fun hS => ?_)
      clear hK K hS
      try simp only [Act.put, List.getElem_toArray, List.getElem_cons_succ, List.getElem_cons_zero, List.setIfInBounds_toArray, List.set_cons_zero, List.set_cons_succ]
      refine wpAnyH_done (by kernel_rfl) ?_ _
      go_wp2_with fail
      go_meet
      exact ⟨g, k, rfl, hgl, R5.out, C5.out.cell (j := 0) rfl, hS2⟩
    · skip
      rw [if_pos (by kernel_rfl)]
      go_simp
      obtain ⟨u3, hu3⟩ : ∃ u, w9.alloc (.cells #[.int .i64 0, .int .i64 0, .int .i64 0, .int .i64 0, .nilFunc] 50) = u := ⟨_, rfl⟩
      have hbu3 : Below w9.heap.size w9 u3 := by rw [← hu3]; exact (Below.refl _ _).alloc (Nat.le_refl _) _
      obtain ⟨g, hgu3⟩ : ∃ g, g = w9.heap.size := ⟨_, rfl⟩
      have HT : Hid (RowIs u3 g 50 [.int .i64 0, .int .i64 0, .int .i64 0, .int .i64 0, .nilFunc]) := by show _; rw [← hu3, hgu3]; exact rowIs_new _ _ _
      have hgl : w1.heap.size ≤ g := by have := hS.size; omega
      try (have hne : k ≠ g := by have := HC.out.lt; omega)
      rw [hu3, ← hgu3]
      clear hu3 hgu3
      refine hK.out _ _ (bchain hS hbu3) (fun hS => ?_)
      clear hK K hbu3
      try simp only [Act.put, List.getElem_toArray, List.getElem_cons_succ, List.getElem_cons_zero, List.setIfInBounds_toArray, List.set_cons_zero, List.set_cons_succ]
      refine wpAnyH_ready (rs := [2]) (by kernel_rfl) (by simp) ?_
      refine (AllReadyH.cons rfl (fun K hK => ?_) AllReadyH.nil)
      rw [if_pos (by kernel_rfl)]
      go_simp
      refine (implClockAt now _).mono ?_; rintro e u4 ⟨rfl, hru4, hbu4⟩
      have HC := hide hru4
      obtain ⟨k, hku4⟩ : ∃ k, k = u3.heap.size := ⟨_, rfl⟩
      rw [← hku4] at HC
      have hkl : w1.heap.size ≤ k := by have := hS.size; omega
      try (have hne : k ≠ g := by have := HT.out.lt; omega)
      rw [← hku4]
      clear hku4 hru4
      replace HT := hide (HT.out.new hbu4)
      refine hK.out _ _ (bchain hS hbu4) (fun hS => ?_)
      clear hK K
      try simp only [Act.put, List.getElem_toArray, List.getElem_cons_succ, List.getElem_cons_zero, List.setIfInBounds_toArray, List.set_cons_zero, List.set_cons_succ]
      refine wpAnyH_take (i := 3) (v := .agg #[.int .i64 r, .int .i64 m, .int .i64 l, .int .i64 a, (.func (.func 38) #[] #[.pointer (some ⟨k, 0, none⟩)])]) rfl (by kernel_rfl) (by kernel_rfl) (by kernel_rfl) (fun _ _ _ h => h) (Or.inl ⟨by kernel_rfl, ?ld⟩) hS ?_; case ld => (intro uu hu; clear hu; go_simp)
      try simp only [Act.put, List.getElem_toArray, List.getElem_cons_succ, List.getElem_cons_zero, List.setIfInBounds_toArray, List.set_cons_zero, List.set_cons_succ]
      refine wpAnyH_ready (rs := [5]) (by kernel_rfl) (by simp) ?_
      refine (AllReadyH.cons rfl (fun K hK => ?_) AllReadyH.nil)
      rw [if_pos (by kernel_rfl)]
      have R5 := hide (rowIs_setRow (cs' := [.int .i64 r, .int .i64 m, .int .i64 l, .int .i64 a, (.func (.func 38) #[] #[.pointer (some ⟨k, 0, none⟩)])]) HT.out)
      have C5 := hide (HC.out.kept (setRow_other u4 g #[.int .i64 r, .int .i64 m, .int .i64 l, .int .i64 a, (.func (.func 38) #[] #[.pointer (some ⟨k, 0, none⟩)])] k hne))
      have hS2 := below_setRow hS hgl #[.int .i64 r, .int .i64 m, .int .i64 l, .int .i64 a, (.func (.func 38) #[] #[.pointer (some ⟨k, 0, none⟩)])]
      refine wp_store_row 50 (.tmp 8) (.tmp 16) rfl g #[.int .i64 r, .int .i64 m, .int .i64 l, .int .i64 a, (.func (.func 38) #[] #[.pointer (some ⟨k, 0, none⟩)])] rfl rfl 50 #[.int .i64 0, .int .i64 0, .int .i64 0, .int .i64 0, .nilFunc] HT.out (by kernel_rfl) rfl (by simp [Value.oneCell']) ?_
      refine hK.out _ _ hS2 (fun hS => ?_)
      clear hK K hS
      try simp only [Act.put, List.getElem_toArray, List.getElem_cons_succ, List.getElem_cons_zero, List.setIfInBounds_toArray, List.set_cons_zero, List.set_cons_succ]
      refine wpAnyH_done (by kernel_rfl) ?_ _
      go_wp2_with fail
      go_meet
      exact ⟨g, k, rfl, hgl, R5.out, C5.out.cell (j := 0) rfl, hS2⟩
  obtain ⟨g, k, rfl, hgl, R5, C5, hbc⟩ := hcut
  have R3 := R2.new hbc
  have b3 := b0.trans (hbc.mono (by have := b0.size; omega))
  clear hbc b0 R1 R2
  cases hn : inB now a 1000000
  · have hv : pouV ⟨r, m, l, a⟩ now n = (⟨r, m, l, a⟩, false) := by unfold pouV; rw [if_neg (by rw [hk]; decide), if_pos hn]
    go_wp2_with fail
    refine (fillNo r m l a now g k _ hk R5 C5 hn).mono ?_; rintro e w4 ⟨rfl, rfl⟩
    have x0 := RowIs.cell (j := 0) R5 rfl; have x1 := RowIs.cell (j := 1) R5 rfl; have x2 := RowIs.cell (j := 2) R5 rfl; have x3 := RowIs.cell (j := 3) R5 rfl; have x9 := fun j => RowIs.frozen R5 j; have x8 := R5.lt; have x4 := RowIs.cell (j := 4) R5 rfl
    have y0 := RowIs.cell (j := 0) R3 rfl; have y1 := RowIs.cell (j := 1) R3 rfl; have y2 := RowIs.cell (j := 2) R3 rfl; have y3 := RowIs.cell (j := 3) R3 rfl; have y9 := fun j => RowIs.frozen R3 j; have y8 := R3.lt
    go_wp2_with fail
    refine bodyPost_ret (v := .tuple #[.agg #[.int .i64 r, .int .i64 m, .int .i64 l, .int .i64 a], .bool false]) (by simp [results, Try.results20, go_sem, *]) rfl ?_
    refine ⟨by rw [hv], ?_⟩
    repeat' (first | (with_reducible exact b3) | (with_reducible refine Below.setCell ?_ ?_ _) | (with_reducible refine Below.alloc ?_ ?_ _) | (with_reducible refine Below.drew ?_) | (with_reducible refine bo_drewN _ ?_) | omega | (simp; done) | (simp; omega))
  have hp : pouV ⟨r, m, l, a⟩ now n = if n < 0 ∨ lvV ⟨r, m, l, a⟩ now < n then (⟨r, m, lvV ⟨r, m, l, a⟩ now, now⟩, false) else (⟨r, m, lvV ⟨r, m, l, a⟩ now - n, now⟩, true) := by unfold pouV fil; rw [if_neg (by rw [hk]; decide), if_neg (by rw [hn]; decide)]
  obtain ⟨n0, n1⟩ := inB_true hn
  have hlv := lv_bd hk n0 n1
  obtain ⟨⟨r0, r1⟩, ⟨m0, m1⟩, ⟨l0, l1⟩, a0, a1⟩ := okBk_true hk
  go_wp2_with fail
  refine (fillYes r m l a now g k _ hk R5 C5 hn).mono ?_; rintro e w4 ⟨rfl, R6, hb4⟩
  generalize lvV ⟨r, m, l, a⟩ now = v at *
  obtain ⟨v0, v1⟩ := hlv
  dsimp only at *
  replace R3 := R3.kept (hb4.block _ (by omega))
  replace b3 := b3.trans (hb4.mono (by have := b3.size; omega))
  clear hb4 R5 C5
  cases hq : inB n 0 v
  · have hv : pouV ⟨r, m, l, a⟩ now n = (⟨r, m, v, now⟩, false) := by rw [hp, if_pos (by have := inB_false hq; omega)]
    have x0 := RowIs.cell (j := 0) R6 rfl; have x1 := RowIs.cell (j := 1) R6 rfl; have x2 := RowIs.cell (j := 2) R6 rfl; have x3 := RowIs.cell (j := 3) R6 rfl; have x9 := fun j => RowIs.frozen R6 j; have x8 := R6.lt; have x4 := RowIs.cell (j := 4) R6 rfl
    have y0 := RowIs.cell (j := 0) R3 rfl; have y1 := RowIs.cell (j := 1) R3 rfl; have y2 := RowIs.cell (j := 2) R3 rfl; have y3 := RowIs.cell (j := 3) R3 rfl; have y9 := fun j => RowIs.frozen R3 j; have y8 := R3.lt
    go_wp2_with fail
    refine (implWithin _ _ _ _).mono ?_; rw [hq]; rintro e w5 ⟨rfl, hsame⟩; obtain rfl := hsame.symm; clear hsame
    go_wp2_with fail
    refine bodyPost_ret (v := .tuple #[.agg #[.int .i64 r, .int .i64 m, .int .i64 v, .int .i64 now], .bool false]) (by simp [results, Try.results20, go_sem, *]) rfl ?_
    refine ⟨by rw [hv], ?_⟩
    repeat' (first | (with_reducible exact b3) | (with_reducible refine Below.setCell ?_ ?_ _) | (with_reducible refine Below.alloc ?_ ?_ _) | (with_reducible refine Below.drew ?_) | (with_reducible refine bo_drewN _ ?_) | omega | (simp; done) | (simp; omega))
  · have hv : pouV ⟨r, m, l, a⟩ now n = (⟨r, m, v - n, now⟩, true) := by rw [hp, if_neg (by have := inB_true hq; omega)]
    obtain ⟨q0, q1⟩ := inB_true hq
    have hgw : g ≠ w.heap.size + 1 := by omega
    have x0 := RowIs.cell (j := 0) R6 rfl; have x1 := RowIs.cell (j := 1) R6 rfl; have x2 := RowIs.cell (j := 2) R6 rfl; have x3 := RowIs.cell (j := 3) R6 rfl; have x9 := fun j => RowIs.frozen R6 j; have x8 := R6.lt; have x4 := RowIs.cell (j := 4) R6 rfl
    have y0 := RowIs.cell (j := 0) R3 rfl; have y1 := RowIs.cell (j := 1) R3 rfl; have y2 := RowIs.cell (j := 2) R3 rfl; have y3 := RowIs.cell (j := 3) R3 rfl; have y9 := fun j => RowIs.frozen R3 j; have y8 := R3.lt
    go_wp2_with fail
    refine (implWithin _ _ _ _).mono ?_; rw [hq]; rintro e w5 ⟨rfl, hsame⟩; obtain rfl := hsame.symm; clear hsame
    go_wp2_with fail
    refine bodyPost_ret (v := .tuple #[.agg #[.int .i64 r, .int .i64 m, .int .i64 (v - n), .int .i64 now], .bool true]) (by simp [results, Try.results20, go_sem, *]) rfl ?_
    refine ⟨by rw [hv], ?_⟩
    have hgs : w.heap.size ≤ g := by omega
    repeat' (first | (with_reducible exact b3) | (with_reducible refine Below.setCell ?_ ?_ _) | (with_reducible refine Below.alloc ?_ ?_ _) | (with_reducible refine Below.drew ?_) | (with_reducible refine bo_drewN _ ?_) | omega | (simp; done) | (simp; omega))
set_option maxHeartbeats 1000000 in
theorem implWhenFull (b : Bk) (n : Int) (w : World) : Calls Try.prog 13 #[bv b, .int .i64 n] w fun x w' => x = .returned (.int .i64 (whV b n)) ∧ Below w.heap.size w w' := by
  obtain ⟨r, m, l, a⟩ := b
  cases hk : okBk ⟨r, m, l, a⟩
  · have hv : whV ⟨r, m, l, a⟩ n = -1 := by unfold whV; rw [if_pos (Or.inl hk)]
    rw [hv]
    dsimp only [bv]
    go_enter Try.func13, Try.ntmps13
    go_wp2_with fail
    have R1 := rowIs_new w 25 [.int .i64 r, .int .i64 m, .int .i64 l, .int .i64 a]
    have b0 : Below w.heap.size w (w.alloc (.cells #[.int .i64 r, .int .i64 m, .int .i64 l, .int .i64 a] 25)) := (Below.refl _ _).alloc (Nat.le_refl _) _
    refine (implRight ⟨r, m, l, a⟩ _).mono ?_; rintro e w1 ⟨rfl, hb1⟩; rw [hk]
    replace R1 := R1.new hb1
    replace b0 := b0.trans (hb1.mono (by simp))
    clear hb1
    go_wp2_with fail
    go_ret
    refine ⟨rfl, ?_⟩
    repeat' (first | (with_reducible exact b0) | (with_reducible refine Below.setCell ?_ ?_ _) | (with_reducible refine Below.alloc ?_ ?_ _) | (with_reducible refine Below.drew ?_) | (with_reducible refine bo_drewN _ ?_) | omega | (simp; done) | (simp; omega))
  cases hn : inB n 0 m
  · have hv : whV ⟨r, m, l, a⟩ n = -1 := by unfold whV; rw [if_pos (Or.inr hn)]
    rw [hv]
    dsimp only [bv]
    go_enter Try.func13, Try.ntmps13
    go_wp2_with fail
    have R1 := rowIs_new w 25 [.int .i64 r, .int .i64 m, .int .i64 l, .int .i64 a]
    have b0 : Below w.heap.size w (w.alloc (.cells #[.int .i64 r, .int .i64 m, .int .i64 l, .int .i64 a] 25)) := (Below.refl _ _).alloc (Nat.le_refl _) _
    refine (implRight ⟨r, m, l, a⟩ _).mono ?_; rintro e w1 ⟨rfl, hb1⟩; rw [hk]
    replace R1 := R1.new hb1
    replace b0 := b0.trans (hb1.mono (by simp))
    clear hb1
    have x0 := RowIs.cell (j := 0) R1 rfl; have x1 := RowIs.cell (j := 1) R1 rfl; have x2 := RowIs.cell (j := 2) R1 rfl; have x3 := RowIs.cell (j := 3) R1 rfl; have x9 := fun j => RowIs.frozen R1 j; have x8 := R1.lt
    go_wp2_with fail
    refine (implWithin _ _ _ _).mono ?_; rw [hn]; rintro e w2 ⟨rfl, hsame⟩; obtain rfl := hsame.symm; clear hsame
    go_wp2_with fail
    go_ret
    refine ⟨rfl, ?_⟩
    repeat' (first | (with_reducible exact b0) | (with_reducible refine Below.setCell ?_ ?_ _) | (with_reducible refine Below.alloc ?_ ?_ _) | (with_reducible refine Below.drew ?_) | (with_reducible refine bo_drewN _ ?_) | omega | (simp; done) | (simp; omega))
  have h0 : ¬ (okBk ⟨r, m, l, a⟩ = false ∨ inB n 0 m = false) := by rw [hk, hn]; decide
  obtain ⟨n0, n1⟩ := inB_true hn
  obtain ⟨⟨r0, r1⟩, ⟨m0, m1⟩, ⟨l0, l1⟩, a0, a1⟩ := okBk_true hk
  dsimp only at *
  have w1' : IntKind.i64.wrap (n - l) = n - l := by rw [IntKind.wrap_i64]; omega
  by_cases hl : n ≤ l
  · have hv : whV ⟨r, m, l, a⟩ n = a := by unfold whV; rw [if_neg h0, if_pos hl]
    rw [hv]
    have hl2 : n - l ≤ 0 := by omega
    clear hv h0
    dsimp only [bv]
    go_enter Try.func13, Try.ntmps13
    go_wp2_with fail
    have R1 := rowIs_new w 25 [.int .i64 r, .int .i64 m, .int .i64 l, .int .i64 a]
    have b0 : Below w.heap.size w (w.alloc (.cells #[.int .i64 r, .int .i64 m, .int .i64 l, .int .i64 a] 25)) := (Below.refl _ _).alloc (Nat.le_refl _) _
    refine (implRight ⟨r, m, l, a⟩ _).mono ?_; rintro e w1 ⟨rfl, hb1⟩; rw [hk]
    replace R1 := R1.new hb1
    replace b0 := b0.trans (hb1.mono (by simp))
    clear hb1
    have x0 := RowIs.cell (j := 0) R1 rfl; have x1 := RowIs.cell (j := 1) R1 rfl; have x2 := RowIs.cell (j := 2) R1 rfl; have x3 := RowIs.cell (j := 3) R1 rfl; have x9 := fun j => RowIs.frozen R1 j; have x8 := R1.lt
    go_wp2_with fail
    refine (implWithin _ _ _ _).mono ?_; rw [hn]; rintro e w2 ⟨rfl, hsame⟩; obtain rfl := hsame.symm; clear hsame
    go_wp2_with fail
    go_ret
    refine ⟨rfl, ?_⟩
    repeat' (first | (with_reducible exact b0) | (with_reducible refine Below.setCell ?_ ?_ _) | (with_reducible refine Below.alloc ?_ ?_ _) | (with_reducible refine Below.drew ?_) | (with_reducible refine bo_drewN _ ?_) | omega | (simp; done) | (simp; omega))
  have hl2 : ¬ n - l ≤ 0 := by omega
  by_cases hr : r = 0
  · have hv : whV ⟨r, m, l, a⟩ n = -1 := by unfold whV; rw [if_neg h0, if_neg hl, if_pos hr]
    rw [hv]
    clear hv h0
    subst hr
    dsimp only [bv]
    go_enter Try.func13, Try.ntmps13
    go_wp2_with fail
    have R1 := rowIs_new w 25 [.int .i64 0, .int .i64 m, .int .i64 l, .int .i64 a]
    have b0 : Below w.heap.size w (w.alloc (.cells #[.int .i64 0, .int .i64 m, .int .i64 l, .int .i64 a] 25)) := (Below.refl _ _).alloc (Nat.le_refl _) _
    refine (implRight ⟨0, m, l, a⟩ _).mono ?_; rintro e w1 ⟨rfl, hb1⟩; rw [hk]
    replace R1 := R1.new hb1
    replace b0 := b0.trans (hb1.mono (by simp))
    clear hb1
    have x0 := RowIs.cell (j := 0) R1 rfl; have x1 := RowIs.cell (j := 1) R1 rfl; have x2 := RowIs.cell (j := 2) R1 rfl; have x3 := RowIs.cell (j := 3) R1 rfl; have x9 := fun j => RowIs.frozen R1 j; have x8 := R1.lt
    go_wp2_with fail
    refine (implWithin _ _ _ _).mono ?_; rw [hn]; rintro e w2 ⟨rfl, hsame⟩; obtain rfl := hsame.symm; clear hsame
    go_wp2_with fail
    go_ret
    refine ⟨rfl, ?_⟩
    repeat' (first | (with_reducible exact b0) | (with_reducible refine Below.setCell ?_ ?_ _) | (with_reducible refine Below.alloc ?_ ?_ _) | (with_reducible refine Below.drew ?_) | (with_reducible refine bo_drewN _ ?_) | omega | (simp; done) | (simp; omega))
  have hv : whV ⟨r, m, l, a⟩ n = if 1000000 < fullT ⟨r, m, l, a⟩ n then -1 else fullT ⟨r, m, l, a⟩ n := by unfold whV; rw [if_neg h0, if_neg hl, if_neg hr]
  rw [hv]
  clear hv
  unfold fullT
  dsimp only
  have e0 : (n - l + r - 1).tdiv r = (n - l + r - 1) / r := Int.tdiv_eq_ediv_of_nonneg (by omega)
  have e1 : 0 ≤ (n - l + r - 1) / r := Int.ediv_nonneg (by omega) (by omega)
  have e2 : (n - l + r - 1) / r ≤ 20000 := by
    have := Int.ediv_le_self r (show 0 ≤ n - l + r - 1 by omega)
    omega
  obtain ⟨q, hq⟩ : ∃ q, (n - l + r - 1) / r = q := ⟨_, rfl⟩
  rw [hq] at e0 e1 e2 ⊢
  clear hq h0
  obtain ⟨A, hA⟩ : ∃ A, (if 1000000 < a + q then -1 else a + q) = A := ⟨_, rfl⟩
  rw [hA]
  have HA := hide hA
  clear hA
  have w2' : IntKind.i64.wrap (n - l + r) = n - l + r := by rw [IntKind.wrap_i64]; omega
  have w3' : IntKind.i64.wrap (n - l + r - 1) = n - l + r - 1 := by rw [IntKind.wrap_i64]; omega
  have w4' : IntKind.i64.wrap q = q := by rw [IntKind.wrap_i64]; omega
  have w5' : IntKind.i64.wrap (a + q) = a + q := by rw [IntKind.wrap_i64]; omega
  have hr0 : (r == 0) = false := by simpa using hr
  dsimp only [bv]
  go_enter Try.func13, Try.ntmps13
  go_wp2_with fail
  have R1 := rowIs_new w 25 [.int .i64 r, .int .i64 m, .int .i64 l, .int .i64 a]
  have b0 : Below w.heap.size w (w.alloc (.cells #[.int .i64 r, .int .i64 m, .int .i64 l, .int .i64 a] 25)) := (Below.refl _ _).alloc (Nat.le_refl _) _
  refine (implRight ⟨r, m, l, a⟩ _).mono ?_; rintro e w1 ⟨rfl, hb1⟩; rw [hk]
  replace R1 := R1.new hb1
  replace b0 := b0.trans (hb1.mono (by simp))
  clear hb1
  have x0 := RowIs.cell (j := 0) R1 rfl; have x1 := RowIs.cell (j := 1) R1 rfl; have x2 := RowIs.cell (j := 2) R1 rfl; have x3 := RowIs.cell (j := 3) R1 rfl; have x9 := fun j => RowIs.frozen R1 j; have x8 := R1.lt
  go_wp2_with fail
  refine (implWithin _ _ _ _).mono ?_; rw [hn]; rintro e w2 ⟨rfl, hsame⟩; obtain rfl := hsame.symm; clear hsame
  go_wp2_with fail
  refine wp_region_held_drew (S := (fun u => u.cell? ⟨w.heap.size, 0, none⟩ = some (.int .i64 r) ∧ u.cell? ⟨w.heap.size, 2, none⟩ = some (.int .i64 l) ∧ u.cell? ⟨w.heap.size, 3, none⟩ = some (.int .i64 a))) (by kernel_rfl) (And.intro x0 (And.intro x2 x3)) (fun hS => ?_)
  clear x0 x1 x2 x3 x9 x8
  refine wpAnyH_take (i := 0) (v := ?_) rfl (by kernel_rfl) (by kernel_rfl) (by kernel_rfl) (fun _ _ _ h => h) (Or.inl ⟨by rfl, ?_⟩) hS ?_; rotate_left; focus (intro w hw; clear hw; go_simp; try with_reducible rfl)
  refine wpAnyH_take (i := 1) (v := ?_) rfl (by kernel_rfl) (by kernel_rfl) (by kernel_rfl) (fun _ _ _ h => h) (Or.inl ⟨by rfl, ?_⟩) hS ?_; rotate_left; focus (intro w hw; obtain ⟨l0, l1, l2⟩ := hw; go_simp; try with_reducible rfl)
  refine wpAnyH_take (i := 2) (v := ?_) rfl (by kernel_rfl) (by kernel_rfl) (by kernel_rfl) (fun _ _ _ h => h) (Or.inl ⟨by rfl, ?_⟩) hS ?_; rotate_left; focus (intro w hw; clear hw; go_simp; try with_reducible rfl)
  refine wpAnyH_take (i := 3) (v := ?_) rfl (by kernel_rfl) (by kernel_rfl) (by kernel_rfl) (fun _ _ _ h => h) (Or.inl ⟨by rfl, ?_⟩) hS ?_; rotate_left; focus (intro w hw; clear hw; go_simp; try with_reducible rfl)
  refine wpAnyH_take (i := 4) (v := ?_) rfl (by kernel_rfl) (by kernel_rfl) (by kernel_rfl) (fun _ _ _ h => h) (Or.inl ⟨by rfl, ?_⟩) hS ?_; rotate_left; focus (intro w hw; obtain ⟨l0, l1, l2⟩ := hw; go_simp; try with_reducible rfl)
  refine wpAnyH_take (i := 5) (v := ?_) rfl (by kernel_rfl) (by kernel_rfl) (by kernel_rfl) (fun _ _ _ h => h) (Or.inl ⟨by rfl, ?_⟩) hS ?_; rotate_left; focus (intro w hw; clear hw; go_simp; try with_reducible rfl)
  refine wpAnyH_take (i := 6) (v := ?_) rfl (by kernel_rfl) (by kernel_rfl) (by kernel_rfl) (fun _ _ _ h => h) (Or.inl ⟨by rfl, ?_⟩) hS ?_; rotate_left; focus (intro w hw; clear hw; go_simp; try with_reducible rfl)
  refine wpAnyH_take (i := 7) (v := ?_) rfl (by kernel_rfl) (by kernel_rfl) (by kernel_rfl) (fun _ _ _ h => h) (Or.inl ⟨by rfl, ?_⟩) hS ?_; rotate_left; focus (intro w hw; clear hw; go_simp; try with_reducible rfl)
  refine wpAnyH_take (i := 8) (v := ?_) rfl (by kernel_rfl) (by kernel_rfl) (by kernel_rfl) (fun _ _ _ h => h) (Or.inl ⟨by rfl, ?_⟩) hS ?_; rotate_left; focus (intro w hw; obtain ⟨l0, l1, l2⟩ := hw; go_simp; try with_reducible rfl)
  refine wpAnyH_take (i := 9) (v := ?_) rfl (by kernel_rfl) (by kernel_rfl) (by kernel_rfl) (fun _ _ _ h => h) (Or.inl ⟨by rfl, ?_⟩) hS ?_; rotate_left; focus (intro w hw; clear hw; go_simp; try with_reducible rfl)
  refine wpAnyH_take (i := 10) (v := ?_) rfl (by kernel_rfl) (by kernel_rfl) (by kernel_rfl) (fun _ _ _ h => h) (Or.inl ⟨by rfl, ?_⟩) hS ?_; rotate_left; focus (intro w hw; clear hw; go_simp; try with_reducible rfl)
  refine wpAnyH_take (i := 11) (v := ?_) rfl (by kernel_rfl) (by kernel_rfl) (by kernel_rfl) (fun _ _ _ h => h) (Or.inl ⟨by rfl, ?_⟩) hS ?_; rotate_left; focus (intro w hw; clear hw; go_simp; try with_reducible rfl)
  refine wpAnyH_done (by kernel_rfl) ?_ _
  clear hS
  by_cases ht : 1000000 < a + q
  · go_wp2_with fail
    go_ret
    exact ⟨by rw [← HA.out, if_pos ht]; rfl, b0.drew⟩
  · go_wp2_with fail
    go_ret
    exact ⟨by rw [← HA.out, if_neg (by omega)]; rfl, b0.drew⟩
end Go.Proofs.Ythoiefhcaplmiaa
