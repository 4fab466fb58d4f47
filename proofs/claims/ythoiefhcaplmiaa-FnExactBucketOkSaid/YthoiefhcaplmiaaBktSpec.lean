/- Chapter 12's model: BucketOk, Filled, Poured, WhenFull; a Bucket that came in. -/
import Derived.Test.YthoiefhcaplmiaaBktMath
import Derived.Test.YthoiefhcaplmiaaMinMax
import Derived.Test.YthoiefhcaplmiaaLater
import Derived.Test.YthoiefhcaplmiaaRowIs
import Derived.Deep.RegionHeld3
import Derived.OpenShut
import Derived.ChangeOld



namespace Go.Proofs.Ythoiefhcaplmiaa
open Go.RowKit
set_option maxRecDepth 100000
set_option linter.unusedSimpArgs false
set_option linter.unusedVariables false
theorem specTime (x : Int) (w : World) : Calls Try.prog 34 #[.int .i64 x] w fun e w' => e = .returned (.bool (inB x 0 1000000)) ∧ w' = w := by
  go_enter Try.func34, Try.ntmps34
  go_wp2_with fail
  refine (specIn _ _ _ _).mono ?_; rintro e w1 ⟨rfl, hsame⟩; obtain rfl := hsame.symm; clear hsame
  go_wp2_with fail
  go_ret
  exact ⟨rfl, rfl⟩
theorem specBucketOk (b : Bk) (w : World) : Calls Try.prog 17 #[bv b] w fun x w' => x = .returned (.bool (okBk b)) ∧ Below w.heap.size w w' := by
  obtain ⟨r, m, l, a⟩ := b
  unfold okBk
  dsimp only [bv]
  cases h1 : inB r 0 1000
  · go_enter Try.func17, Try.ntmps17
    go_wp2_with fail
    refine (specIn _ _ _ _).mono ?_; rw [h1]; rintro e w1 ⟨rfl, hsame⟩; obtain rfl := hsame.symm; clear hsame
    go_wp2_with fail
    go_ret
    exact ⟨rfl, (by repeat' (first | (with_reducible exact Below.refl _ _) | (with_reducible refine Below.drew ?_) | (with_reducible refine bo_drewN _ ?_) | (with_reducible refine bo_alloc ?_ _) | (refine bchain ?_ (by with_reducible assumption)) | (with_reducible refine Below.setCell ?_ ?_ _) | go_size))⟩
  cases h2 : inB m 1 10000
  · go_enter Try.func17, Try.ntmps17
    go_wp2_with fail
    refine (specIn _ _ _ _).mono ?_; rw [h1]; rintro e w1 ⟨rfl, hsame⟩; obtain rfl := hsame.symm; clear hsame
    go_wp2_with fail
    refine (specIn _ _ _ _).mono ?_; rw [h2]; rintro e w1 ⟨rfl, hsame⟩; obtain rfl := hsame.symm; clear hsame
    go_wp2_with fail
    go_ret
    exact ⟨rfl, (by repeat' (first | (with_reducible exact Below.refl _ _) | (with_reducible refine Below.drew ?_) | (with_reducible refine bo_drewN _ ?_) | (with_reducible refine bo_alloc ?_ _) | (refine bchain ?_ (by with_reducible assumption)) | (with_reducible refine Below.setCell ?_ ?_ _) | go_size))⟩
  cases h3 : inB l 0 m
  · go_enter Try.func17, Try.ntmps17
    go_wp2_with fail
    refine (specIn _ _ _ _).mono ?_; rw [h1]; rintro e w1 ⟨rfl, hsame⟩; obtain rfl := hsame.symm; clear hsame
    go_wp2_with fail
    refine (specIn _ _ _ _).mono ?_; rw [h2]; rintro e w1 ⟨rfl, hsame⟩; obtain rfl := hsame.symm; clear hsame
    go_wp2_with fail
    refine (specIn _ _ _ _).mono ?_; rw [h3]; rintro e w1 ⟨rfl, hsame⟩; obtain rfl := hsame.symm; clear hsame
    go_wp2_with fail
    go_ret
    exact ⟨rfl, (by repeat' (first | (with_reducible exact Below.refl _ _) | (with_reducible refine Below.drew ?_) | (with_reducible refine bo_drewN _ ?_) | (with_reducible refine bo_alloc ?_ _) | (refine bchain ?_ (by with_reducible assumption)) | (with_reducible refine Below.setCell ?_ ?_ _) | go_size))⟩
  · go_enter Try.func17, Try.ntmps17
    go_wp2_with fail
    refine (specIn _ _ _ _).mono ?_; rw [h1]; rintro e w1 ⟨rfl, hsame⟩; obtain rfl := hsame.symm; clear hsame
    go_wp2_with fail
    refine (specIn _ _ _ _).mono ?_; rw [h2]; rintro e w1 ⟨rfl, hsame⟩; obtain rfl := hsame.symm; clear hsame
    go_wp2_with fail
    refine (specIn _ _ _ _).mono ?_; rw [h3]; rintro e w1 ⟨rfl, hsame⟩; obtain rfl := hsame.symm; clear hsame
    go_wp2_with fail
    refine (specTime _ _).mono ?_; rintro e w1 ⟨rfl, hsame⟩; obtain rfl := hsame.symm; clear hsame
    go_wp2_with fail
    go_ret
    exact ⟨rfl, (by repeat' (first | (with_reducible exact Below.refl _ _) | (with_reducible refine Below.drew ?_) | (with_reducible refine bo_drewN _ ?_) | (with_reducible refine bo_alloc ?_ _) | (refine bchain ?_ (by with_reducible assumption)) | (with_reducible refine Below.setCell ?_ ?_ _) | go_size))⟩
set_option maxHeartbeats 1000000 in
theorem specFilled (b : Bk) (now : Int) (w : World) : Calls Try.prog 14 #[bv b, .int .i64 now] w fun x w' => x = .returned (bv (filV b now)) ∧ Below w.heap.size w w' := by
  obtain ⟨r, m, l, a⟩ := b
  cases hk : okBk ⟨r, m, l, a⟩
  · have hv : filV ⟨r, m, l, a⟩ now = zBk := by unfold filV; rw [if_pos hk]
    rw [hv]
    dsimp only [bv, zBk]
    go_enter Try.func14, Try.ntmps14
    go_wp2_with fail; refine (specBucketOk ⟨r, m, l, a⟩ _).mono ?_; rintro e w1 ⟨rfl, hb1⟩; rw [hk]; have hc1 := fun o => hb1.cell (p := ⟨w.heap.size, o, none⟩) (by first | (simp; done) | (simp; omega) | omega); have hf1 := fun o => hb1.frozen (p := ⟨w.heap.size, o, none⟩) (by first | (simp; done) | (simp; omega) | omega); have hc2 := fun o => hb1.cell (p := ⟨w.heap.size + 1, o, none⟩) (by first | (simp; done) | (simp; omega) | omega); have hf2 := fun o => hb1.frozen (p := ⟨w.heap.size + 1, o, none⟩) (by first | (simp; done) | (simp; omega) | omega); have hz1 := hb1.size; (try simp at hz1); go_wp2_with fail
    refine bodyPost_ret (v := .agg #[.int .i64 0, .int .i64 0, .int .i64 0, .int .i64 0]) (by simp [results, Try.results14, go_sem, *]) rfl ?_
    exact ⟨rfl, (by repeat' (first | (with_reducible exact Below.refl _ _) | (with_reducible refine Below.drew ?_) | (with_reducible refine bo_drewN _ ?_) | (with_reducible refine bo_alloc ?_ _) | (refine bchain ?_ (by with_reducible assumption)) | (with_reducible refine Below.setCell ?_ ?_ _) | go_size))⟩
  cases hn : inB now a 1000000
  · have hv : filV ⟨r, m, l, a⟩ now = ⟨r, m, l, a⟩ := by unfold filV; rw [if_neg (by rw [hk]; decide), if_pos hn]
    rw [hv]
    dsimp only [bv]
    go_enter Try.func14, Try.ntmps14
    go_wp2_with fail; refine (specBucketOk ⟨r, m, l, a⟩ _).mono ?_; rintro e w1 ⟨rfl, hb1⟩; rw [hk]; have hc1 := fun o => hb1.cell (p := ⟨w.heap.size, o, none⟩) (by first | (simp; done) | (simp; omega) | omega); have hf1 := fun o => hb1.frozen (p := ⟨w.heap.size, o, none⟩) (by first | (simp; done) | (simp; omega) | omega); have hc2 := fun o => hb1.cell (p := ⟨w.heap.size + 1, o, none⟩) (by first | (simp; done) | (simp; omega) | omega); have hf2 := fun o => hb1.frozen (p := ⟨w.heap.size + 1, o, none⟩) (by first | (simp; done) | (simp; omega) | omega); have hz1 := hb1.size; (try simp at hz1); go_wp2_with fail
    refine (specIn _ _ _ _).mono ?_; rw [hn]; rintro e w2 ⟨rfl, hsame⟩; obtain rfl := hsame.symm; clear hsame
    go_wp2_with fail
    refine bodyPost_ret (v := .agg #[.int .i64 r, .int .i64 m, .int .i64 l, .int .i64 a]) (by simp [results, Try.results14, go_sem, *]) rfl ?_
    exact ⟨rfl, (by repeat' (first | (with_reducible exact Below.refl _ _) | (with_reducible refine Below.drew ?_) | (with_reducible refine bo_drewN _ ?_) | (with_reducible refine bo_alloc ?_ _) | (refine bchain ?_ (by with_reducible assumption)) | (with_reducible refine Below.setCell ?_ ?_ _) | go_size))⟩
  · have hv : filV ⟨r, m, l, a⟩ now = fil ⟨r, m, l, a⟩ now := by unfold filV; rw [if_neg (by rw [hk]; decide), if_neg (by rw [hn]; decide)]
    rw [hv]
    obtain ⟨n0, n1⟩ := inB_true hn
    obtain ⟨p0, p1⟩ := rise_bd hk n0 n1
    obtain ⟨⟨r0, r1⟩, ⟨m0, m1⟩, ⟨l0, l1⟩, a0, a1⟩ := okBk_true hk
    obtain ⟨v, hv2⟩ : ∃ v, lvV ⟨r, m, l, a⟩ now = v := ⟨_, rfl⟩
    unfold fil
    rw [hv2]
    unfold lvV at hv2
    dsimp only [bv] at *
    clear hv
    go_enter Try.func14, Try.ntmps14
    go_wp2_with fail; refine (specBucketOk ⟨r, m, l, a⟩ _).mono ?_; rintro e w1 ⟨rfl, hb1⟩; rw [hk]; have hc1 := fun o => hb1.cell (p := ⟨w.heap.size, o, none⟩) (by first | (simp; done) | (simp; omega) | omega); have hf1 := fun o => hb1.frozen (p := ⟨w.heap.size, o, none⟩) (by first | (simp; done) | (simp; omega) | omega); have hc2 := fun o => hb1.cell (p := ⟨w.heap.size + 1, o, none⟩) (by first | (simp; done) | (simp; omega) | omega); have hf2 := fun o => hb1.frozen (p := ⟨w.heap.size + 1, o, none⟩) (by first | (simp; done) | (simp; omega) | omega); have hz1 := hb1.size; (try simp at hz1); go_wp2_with fail
    refine (specIn _ _ _ _).mono ?_; rw [hn]; rintro e w2 ⟨rfl, hsame⟩; obtain rfl := hsame.symm; clear hsame
    go_wp2_with fail
    refine (specMin _ _ _).mono ?_; rw [hv2]; rintro e w3 ⟨rfl, hsame⟩; obtain rfl := hsame.symm; clear hsame
    clear hv2
    go_wp2_with fail
    refine bodyPost_ret (v := .agg #[.int .i64 r, .int .i64 m, .int .i64 v, .int .i64 now]) (by simp [results, Try.results14, go_sem, *]) rfl ?_
    exact ⟨rfl, (by repeat' (first | (with_reducible exact Below.refl _ _) | (with_reducible refine Below.drew ?_) | (with_reducible refine bo_drewN _ ?_) | (with_reducible refine bo_alloc ?_ _) | (refine bchain ?_ (by with_reducible assumption)) | (with_reducible refine Below.setCell ?_ ?_ _) | go_size))⟩
set_option maxHeartbeats 1000000 in
theorem specPoured (b : Bk) (now n : Int) (w : World) : Calls Try.prog 21 #[bv b, .int .i64 now, .int .i64 n] w fun x w' => x = .returned (.tuple #[bv (pouV b now n).1, .bool (pouV b now n).2]) ∧ Below w.heap.size w w' := by
  obtain ⟨r, m, l, a⟩ := b
  cases hk : okBk ⟨r, m, l, a⟩
  · have hv : pouV ⟨r, m, l, a⟩ now n = (zBk, false) := by unfold pouV; rw [if_pos hk]
    rw [hv]
    dsimp only [bv, zBk]
    go_enter Try.func21, Try.ntmps21
    go_wp2_with fail; refine (specBucketOk ⟨r, m, l, a⟩ _).mono ?_; rintro e w1 ⟨rfl, hb1⟩; rw [hk]; have hc1 := fun o => hb1.cell (p := ⟨w.heap.size, o, none⟩) (by first | (simp; done) | (simp; omega) | omega); have hf1 := fun o => hb1.frozen (p := ⟨w.heap.size, o, none⟩) (by first | (simp; done) | (simp; omega) | omega); have hc2 := fun o => hb1.cell (p := ⟨w.heap.size + 1, o, none⟩) (by first | (simp; done) | (simp; omega) | omega); have hf2 := fun o => hb1.frozen (p := ⟨w.heap.size + 1, o, none⟩) (by first | (simp; done) | (simp; omega) | omega); have hz1 := hb1.size; (try simp at hz1); go_wp2_with fail
    refine bodyPost_ret (v := .tuple #[.agg #[.int .i64 0, .int .i64 0, .int .i64 0, .int .i64 0], .bool false]) (by simp [results, Try.results21, go_sem, *]) rfl ?_
    exact ⟨rfl, (by repeat' (first | (with_reducible exact Below.refl _ _) | (with_reducible refine Below.drew ?_) | (with_reducible refine bo_drewN _ ?_) | (with_reducible refine bo_alloc ?_ _) | (refine bchain ?_ (by with_reducible assumption)) | (with_reducible refine Below.setCell ?_ ?_ _) | go_size))⟩
  cases hn : inB now a 1000000
  · have hv : pouV ⟨r, m, l, a⟩ now n = (⟨r, m, l, a⟩, false) := by unfold pouV; rw [if_neg (by rw [hk]; decide), if_pos hn]
    rw [hv]
    dsimp only [bv]
    go_enter Try.func21, Try.ntmps21
    go_wp2_with fail; refine (specBucketOk ⟨r, m, l, a⟩ _).mono ?_; rintro e w1 ⟨rfl, hb1⟩; rw [hk]; have hc1 := fun o => hb1.cell (p := ⟨w.heap.size, o, none⟩) (by first | (simp; done) | (simp; omega) | omega); have hf1 := fun o => hb1.frozen (p := ⟨w.heap.size, o, none⟩) (by first | (simp; done) | (simp; omega) | omega); have hc2 := fun o => hb1.cell (p := ⟨w.heap.size + 1, o, none⟩) (by first | (simp; done) | (simp; omega) | omega); have hf2 := fun o => hb1.frozen (p := ⟨w.heap.size + 1, o, none⟩) (by first | (simp; done) | (simp; omega) | omega); have hz1 := hb1.size; (try simp at hz1); go_wp2_with fail
    refine (specIn _ _ _ _).mono ?_; rw [hn]; rintro e w2 ⟨rfl, hsame⟩; obtain rfl := hsame.symm; clear hsame
    go_wp2_with fail
    refine bodyPost_ret (v := .tuple #[.agg #[.int .i64 r, .int .i64 m, .int .i64 l, .int .i64 a], .bool false]) (by simp [results, Try.results21, go_sem, *]) rfl ?_
    exact ⟨rfl, (by repeat' (first | (with_reducible exact Below.refl _ _) | (with_reducible refine Below.drew ?_) | (with_reducible refine bo_drewN _ ?_) | (with_reducible refine bo_alloc ?_ _) | (refine bchain ?_ (by with_reducible assumption)) | (with_reducible refine Below.setCell ?_ ?_ _) | go_size))⟩
  have hf : filV ⟨r, m, l, a⟩ now = fil ⟨r, m, l, a⟩ now := by unfold filV; rw [if_neg (by rw [hk]; decide), if_neg (by rw [hn]; decide)]
  obtain ⟨n0, n1⟩ := inB_true hn
  have hlv := lv_bd hk n0 n1
  obtain ⟨⟨r0, r1⟩, ⟨m0, m1⟩, ⟨l0, l1⟩, a0, a1⟩ := okBk_true hk
  obtain ⟨v, hv2⟩ : ∃ v, lvV ⟨r, m, l, a⟩ now = v := ⟨_, rfl⟩
  rw [hv2] at hlv
  obtain ⟨v0, v1⟩ := hlv
  unfold fil at hf
  rw [hv2] at hf
  dsimp only at *
  by_cases hs : n < 0 ∨ v < n
  · have hv : pouV ⟨r, m, l, a⟩ now n = (⟨r, m, v, now⟩, false) := by unfold pouV fil; rw [if_neg (by rw [hk]; decide), if_neg (by rw [hn]; decide), hv2, if_pos hs]
    rw [hv]
    clear hv hv2
    have hd : (decide (n < 0) || decide (v < n)) = true := by simpa using hs
    dsimp only [bv]
    go_enter Try.func21, Try.ntmps21
    go_wp2_with fail
    have R1 : RowIs _ w.heap.size 25 [.int .i64 r, .int .i64 m, .int .i64 l, .int .i64 a] := (rowIs_new w 25 [.int .i64 r, .int .i64 m, .int .i64 l, .int .i64 a]).alloc (.cells #[.int .i64 0, .int .i64 0, .int .i64 0, .int .i64 0] 25)
    have R2 : RowIs ((w.alloc (.cells #[.int .i64 r, .int .i64 m, .int .i64 l, .int .i64 a] 25)).alloc (.cells #[.int .i64 0, .int .i64 0, .int .i64 0, .int .i64 0] 25)) (w.heap.size + 1) 25 [.int .i64 0, .int .i64 0, .int .i64 0, .int .i64 0] := by have := rowIs_new (w.alloc (.cells #[.int .i64 r, .int .i64 m, .int .i64 l, .int .i64 a] 25)) 25 [.int .i64 0, .int .i64 0, .int .i64 0, .int .i64 0]; simpa using this
    have b0 : Below w.heap.size w ((w.alloc (.cells #[.int .i64 r, .int .i64 m, .int .i64 l, .int .i64 a] 25)).alloc (.cells #[.int .i64 0, .int .i64 0, .int .i64 0, .int .i64 0] 25)) := ((Below.refl _ _).alloc (Nat.le_refl _) _).alloc (by simp) _
    refine (specBucketOk ⟨r, m, l, a⟩ _).mono ?_; rintro e w1 ⟨rfl, hb1⟩; rw [hk]
    replace R1 := R1.new hb1
    replace R2 := R2.new hb1
    replace b0 := b0.trans (hb1.mono (by simp; omega))
    clear hb1
    have x0 := RowIs.cell (j := 0) R1 rfl; have x1 := RowIs.cell (j := 1) R1 rfl; have x2 := RowIs.cell (j := 2) R1 rfl; have x3 := RowIs.cell (j := 3) R1 rfl; have x9 := fun j => RowIs.frozen R1 j; have x8 := R1.lt
    go_wp2_with fail
    refine (specIn _ _ _ _).mono ?_; rw [hn]; rintro e w2 ⟨rfl, hsame⟩; obtain rfl := hsame.symm; clear hsame
    go_wp2_with fail
    clear x0 x1 x2 x3 x9 x8
    have z1 := R1.lt
    refine (specFilled ⟨r, m, l, a⟩ now _).mono ?_; rw [hf]; rintro e w3 ⟨rfl, hb3⟩
    dsimp only [bv]
    replace R2 := R2.new hb3
    replace b0 := b0.trans (hb3.mono (by omega))
    have z3 := hb3.size
    have z2 := R2.lt
    clear hb3 R1
    obtain ⟨W4, hW4⟩ : ∃ W, w3.alloc (.cells #[.int .i64 r, .int .i64 m, .int .i64 v, .int .i64 now] 25) = W := ⟨_, rfl⟩
    have R4 : RowIs W4 w3.heap.size 25 [.int .i64 r, .int .i64 m, .int .i64 v, .int .i64 now] := by rw [← hW4]; exact rowIs_new w3 _ _
    replace R2 : RowIs W4 (w.heap.size + 1) 25 [.int .i64 0, .int .i64 0, .int .i64 0, .int .i64 0] := by rw [← hW4]; exact R2.alloc _
    have b4 : Below w.heap.size w W4 := by rw [← hW4]; exact b0.alloc (by omega) _
    have y0 := RowIs.cell (j := 0) R2 rfl; have y1 := RowIs.cell (j := 1) R2 rfl; have y2 := RowIs.cell (j := 2) R2 rfl; have y3 := RowIs.cell (j := 3) R2 rfl; have y9 := fun j => RowIs.frozen R2 j; have y8 := R2.lt
    have x0 := RowIs.cell (j := 0) R4 rfl; have x1 := RowIs.cell (j := 1) R4 rfl; have x2 := RowIs.cell (j := 2) R4 rfl; have x3 := RowIs.cell (j := 3) R4 rfl; have x9 := fun j => RowIs.frozen R4 j; have x8 := R4.lt
    by_cases hs2 : n < 0
    · go_wp2_with fail
      refine bodyPost_ret (v := .tuple #[.agg #[.int .i64 r, .int .i64 m, .int .i64 v, .int .i64 now], .bool false]) (by simp [results, Try.results21, go_sem, *]) rfl ?_
      refine ⟨rfl, ?_⟩
      repeat' (first | (with_reducible exact b4) | (with_reducible refine Below.setCell ?_ ?_ _) | (with_reducible refine Below.alloc ?_ ?_ _) | (with_reducible refine Below.drew ?_) | (with_reducible refine bo_drewN _ ?_) | omega | (simp; done) | (simp; omega))
    · have hs3 : v < n := hs.resolve_left hs2
      go_wp2_with fail
      refine bodyPost_ret (v := .tuple #[.agg #[.int .i64 r, .int .i64 m, .int .i64 v, .int .i64 now], .bool false]) (by simp [results, Try.results21, go_sem, *]) rfl ?_
      refine ⟨rfl, ?_⟩
      repeat' (first | (with_reducible exact b4) | (with_reducible refine Below.setCell ?_ ?_ _) | (with_reducible refine Below.alloc ?_ ?_ _) | (with_reducible refine Below.drew ?_) | (with_reducible refine bo_drewN _ ?_) | omega | (simp; done) | (simp; omega))
  · have hv : pouV ⟨r, m, l, a⟩ now n = (⟨r, m, v - n, now⟩, true) := by unfold pouV; rw [if_neg (by rw [hk]; decide), if_neg (by rw [hn]; decide), hv2, if_neg hs]
    rw [hv]
    clear hv hv2
    have hs1 : ¬ n < 0 := fun c => hs (Or.inl c)
    have hs2 : ¬ v < n := fun c => hs (Or.inr c)
    clear hs
    dsimp only [bv]
    go_enter Try.func21, Try.ntmps21
    go_wp2_with fail
    have R1 : RowIs _ w.heap.size 25 [.int .i64 r, .int .i64 m, .int .i64 l, .int .i64 a] := (rowIs_new w 25 [.int .i64 r, .int .i64 m, .int .i64 l, .int .i64 a]).alloc (.cells #[.int .i64 0, .int .i64 0, .int .i64 0, .int .i64 0] 25)
    have R2 : RowIs ((w.alloc (.cells #[.int .i64 r, .int .i64 m, .int .i64 l, .int .i64 a] 25)).alloc (.cells #[.int .i64 0, .int .i64 0, .int .i64 0, .int .i64 0] 25)) (w.heap.size + 1) 25 [.int .i64 0, .int .i64 0, .int .i64 0, .int .i64 0] := by have := rowIs_new (w.alloc (.cells #[.int .i64 r, .int .i64 m, .int .i64 l, .int .i64 a] 25)) 25 [.int .i64 0, .int .i64 0, .int .i64 0, .int .i64 0]; simpa using this
    have b0 : Below w.heap.size w ((w.alloc (.cells #[.int .i64 r, .int .i64 m, .int .i64 l, .int .i64 a] 25)).alloc (.cells #[.int .i64 0, .int .i64 0, .int .i64 0, .int .i64 0] 25)) := ((Below.refl _ _).alloc (Nat.le_refl _) _).alloc (by simp) _
    refine (specBucketOk ⟨r, m, l, a⟩ _).mono ?_; rintro e w1 ⟨rfl, hb1⟩; rw [hk]
    replace R1 := R1.new hb1
    replace R2 := R2.new hb1
    replace b0 := b0.trans (hb1.mono (by simp; omega))
    clear hb1
    have x0 := RowIs.cell (j := 0) R1 rfl; have x1 := RowIs.cell (j := 1) R1 rfl; have x2 := RowIs.cell (j := 2) R1 rfl; have x3 := RowIs.cell (j := 3) R1 rfl; have x9 := fun j => RowIs.frozen R1 j; have x8 := R1.lt
    go_wp2_with fail
    refine (specIn _ _ _ _).mono ?_; rw [hn]; rintro e w2 ⟨rfl, hsame⟩; obtain rfl := hsame.symm; clear hsame
    go_wp2_with fail
    clear x0 x1 x2 x3 x9 x8
    have z1 := R1.lt
    refine (specFilled ⟨r, m, l, a⟩ now _).mono ?_; rw [hf]; rintro e w3 ⟨rfl, hb3⟩
    dsimp only [bv]
    replace R2 := R2.new hb3
    replace b0 := b0.trans (hb3.mono (by omega))
    have z3 := hb3.size
    have z2 := R2.lt
    clear hb3 R1
    obtain ⟨W4, hW4⟩ : ∃ W, w3.alloc (.cells #[.int .i64 r, .int .i64 m, .int .i64 v, .int .i64 now] 25) = W := ⟨_, rfl⟩
    have R4 : RowIs W4 w3.heap.size 25 [.int .i64 r, .int .i64 m, .int .i64 v, .int .i64 now] := by rw [← hW4]; exact rowIs_new w3 _ _
    replace R2 : RowIs W4 (w.heap.size + 1) 25 [.int .i64 0, .int .i64 0, .int .i64 0, .int .i64 0] := by rw [← hW4]; exact R2.alloc _
    have b4 : Below w.heap.size w W4 := by rw [← hW4]; exact b0.alloc (by omega) _
    have y0 := RowIs.cell (j := 0) R2 rfl; have y1 := RowIs.cell (j := 1) R2 rfl; have y2 := RowIs.cell (j := 2) R2 rfl; have y3 := RowIs.cell (j := 3) R2 rfl; have y9 := fun j => RowIs.frozen R2 j; have y8 := R2.lt
    have x0 := RowIs.cell (j := 0) R4 rfl; have x1 := RowIs.cell (j := 1) R4 rfl; have x2 := RowIs.cell (j := 2) R4 rfl; have x3 := RowIs.cell (j := 3) R4 rfl; have x9 := fun j => RowIs.frozen R4 j; have x8 := R4.lt
    go_wp2_with fail
    refine bodyPost_ret (v := .tuple #[.agg #[.int .i64 r, .int .i64 m, .int .i64 (v - n), .int .i64 now], .bool true]) (by simp [results, Try.results21, go_sem, *]) rfl ?_
    refine ⟨rfl, ?_⟩
    repeat' (first | (with_reducible exact b4) | (with_reducible refine Below.setCell ?_ ?_ _) | (with_reducible refine Below.alloc ?_ ?_ _) | (with_reducible refine Below.drew ?_) | (with_reducible refine bo_drewN _ ?_) | omega | (simp; done) | (simp; omega))
set_option maxHeartbeats 1000000 in
theorem specWhenFull (b : Bk) (n : Int) (w : World) : Calls Try.prog 15 #[bv b, .int .i64 n] w fun x w' => x = .returned (.int .i64 (whV b n)) ∧ Below w.heap.size w w' := by
  obtain ⟨r, m, l, a⟩ := b
  cases hk : okBk ⟨r, m, l, a⟩
  · have hv : whV ⟨r, m, l, a⟩ n = -1 := by unfold whV; rw [if_pos (Or.inl hk)]
    rw [hv]
    dsimp only [bv]
    go_enter Try.func15, Try.ntmps15
    go_wp2_with fail; refine (specBucketOk ⟨r, m, l, a⟩ _).mono ?_; rintro e w1 ⟨rfl, hb1⟩; rw [hk]; have hc1 := fun o => hb1.cell (p := ⟨w.heap.size, o, none⟩) (by first | (simp; done) | (simp; omega) | omega); have hf1 := fun o => hb1.frozen (p := ⟨w.heap.size, o, none⟩) (by first | (simp; done) | (simp; omega) | omega); have hz1 := hb1.size; (try simp at hz1); go_wp2_with fail
    go_ret
    exact ⟨rfl, (by repeat' (first | (with_reducible exact Below.refl _ _) | (with_reducible refine Below.drew ?_) | (with_reducible refine bo_drewN _ ?_) | (with_reducible refine bo_alloc ?_ _) | (refine bchain ?_ (by with_reducible assumption)) | (with_reducible refine Below.setCell ?_ ?_ _) | go_size))⟩
  cases hn : inB n 0 m
  · have hv : whV ⟨r, m, l, a⟩ n = -1 := by unfold whV; rw [if_pos (Or.inr hn)]
    rw [hv]
    dsimp only [bv]
    go_enter Try.func15, Try.ntmps15
    go_wp2_with fail; refine (specBucketOk ⟨r, m, l, a⟩ _).mono ?_; rintro e w1 ⟨rfl, hb1⟩; rw [hk]; have hc1 := fun o => hb1.cell (p := ⟨w.heap.size, o, none⟩) (by first | (simp; done) | (simp; omega) | omega); have hf1 := fun o => hb1.frozen (p := ⟨w.heap.size, o, none⟩) (by first | (simp; done) | (simp; omega) | omega); have hz1 := hb1.size; (try simp at hz1); go_wp2_with fail
    refine (specIn _ _ _ _).mono ?_; rw [hn]; rintro e w2 ⟨rfl, hsame⟩; obtain rfl := hsame.symm; clear hsame
    go_wp2_with fail
    go_ret
    exact ⟨rfl, (by repeat' (first | (with_reducible exact Below.refl _ _) | (with_reducible refine Below.drew ?_) | (with_reducible refine bo_drewN _ ?_) | (with_reducible refine bo_alloc ?_ _) | (refine bchain ?_ (by with_reducible assumption)) | (with_reducible refine Below.setCell ?_ ?_ _) | go_size))⟩
  have h0 : ¬ (okBk ⟨r, m, l, a⟩ = false ∨ inB n 0 m = false) := by rw [hk, hn]; decide
  obtain ⟨n0, n1⟩ := inB_true hn
  obtain ⟨⟨r0, r1⟩, ⟨m0, m1⟩, ⟨l0, l1⟩, a0, a1⟩ := okBk_true hk
  dsimp only at *
  by_cases hl : n ≤ l
  · have hv : whV ⟨r, m, l, a⟩ n = a := by unfold whV; rw [if_neg h0, if_pos hl]
    rw [hv]
    dsimp only [bv]
    go_enter Try.func15, Try.ntmps15
    go_wp2_with fail; refine (specBucketOk ⟨r, m, l, a⟩ _).mono ?_; rintro e w1 ⟨rfl, hb1⟩; rw [hk]; have hc1 := fun o => hb1.cell (p := ⟨w.heap.size, o, none⟩) (by first | (simp; done) | (simp; omega) | omega); have hf1 := fun o => hb1.frozen (p := ⟨w.heap.size, o, none⟩) (by first | (simp; done) | (simp; omega) | omega); have hz1 := hb1.size; (try simp at hz1); go_wp2_with fail
    refine (specIn _ _ _ _).mono ?_; rw [hn]; rintro e w2 ⟨rfl, hsame⟩; obtain rfl := hsame.symm; clear hsame
    go_wp2_with fail
    go_ret
    exact ⟨rfl, (by repeat' (first | (with_reducible exact Below.refl _ _) | (with_reducible refine Below.drew ?_) | (with_reducible refine bo_drewN _ ?_) | (with_reducible refine bo_alloc ?_ _) | (refine bchain ?_ (by with_reducible assumption)) | (with_reducible refine Below.setCell ?_ ?_ _) | go_size))⟩
  by_cases hr : r = 0
  · have hv : whV ⟨r, m, l, a⟩ n = -1 := by unfold whV; rw [if_neg h0, if_neg hl, if_pos hr]
    rw [hv]
    clear hv h0
    subst hr
    dsimp only [bv]
    go_enter Try.func15, Try.ntmps15
    go_wp2_with fail; refine (specBucketOk ⟨0, m, l, a⟩ _).mono ?_; rintro e w1 ⟨rfl, hb1⟩; rw [hk]; have hc1 := fun o => hb1.cell (p := ⟨w.heap.size, o, none⟩) (by first | (simp; done) | (simp; omega) | omega); have hf1 := fun o => hb1.frozen (p := ⟨w.heap.size, o, none⟩) (by first | (simp; done) | (simp; omega) | omega); have hz1 := hb1.size; (try simp at hz1); go_wp2_with fail
    refine (specIn _ _ _ _).mono ?_; rw [hn]; rintro e w2 ⟨rfl, hsame⟩; obtain rfl := hsame.symm; clear hsame
    go_wp2_with fail
    go_ret
    exact ⟨rfl, (by repeat' (first | (with_reducible exact Below.refl _ _) | (with_reducible refine Below.drew ?_) | (with_reducible refine bo_drewN _ ?_) | (with_reducible refine bo_alloc ?_ _) | (refine bchain ?_ (by with_reducible assumption)) | (with_reducible refine Below.setCell ?_ ?_ _) | go_size))⟩
  have hv : whV ⟨r, m, l, a⟩ n = if 1000000 < fullT ⟨r, m, l, a⟩ n then -1 else fullT ⟨r, m, l, a⟩ n := by unfold whV; rw [if_neg h0, if_neg hl, if_neg hr]
  rw [hv]
  clear hv
  unfold fullT
  dsimp only
  have e0 : (n - l + r - 1).tdiv r = (n - l + r - 1) / r := Int.tdiv_eq_ediv_of_nonneg (by omega)
  have e1 : 0 ≤ (n - l + r - 1) / r := Int.ediv_nonneg (by omega) (by omega)
  have e2 : (n - l + r - 1) / r ≤ 20000 := by
    have := Int.ediv_le_self r (show 0 ≤ n - l + r - 1 by omega)
    omega
  obtain ⟨q, hq⟩ : ∃ q, (n - l + r - 1) / r = q := ⟨_, rfl⟩
  rw [hq] at e0 e1 e2 ⊢
  clear hq h0
  obtain ⟨A, hA⟩ : ∃ A, (if 1000000 < a + q then -1 else a + q) = A := ⟨_, rfl⟩
  rw [hA]
  have HA := hide hA
  clear hA
  dsimp only [bv]
  have w1' : IntKind.i64.wrap (n - l) = n - l := by rw [IntKind.wrap_i64]; omega
  have w2' : IntKind.i64.wrap (n - l + r) = n - l + r := by rw [IntKind.wrap_i64]; omega
  have w3' : IntKind.i64.wrap (n - l + r - 1) = n - l + r - 1 := by rw [IntKind.wrap_i64]; omega
  have w4' : IntKind.i64.wrap q = q := by rw [IntKind.wrap_i64]; omega
  have w5' : IntKind.i64.wrap (a + q) = a + q := by rw [IntKind.wrap_i64]; omega
  have hr0 : (r == 0) = false := by simpa using hr
  go_enter Try.func15, Try.ntmps15
  go_wp2_with fail
  have R1 := rowIs_new w 25 [.int .i64 r, .int .i64 m, .int .i64 l, .int .i64 a]
  have b0 : Below w.heap.size w (w.alloc (.cells #[.int .i64 r, .int .i64 m, .int .i64 l, .int .i64 a] 25)) := (Below.refl _ _).alloc (Nat.le_refl _) _
  refine (specBucketOk ⟨r, m, l, a⟩ _).mono ?_; rintro e w1 ⟨rfl, hb1⟩; rw [hk]
  replace R1 := R1.new hb1
  replace b0 := b0.trans (hb1.mono (by simp))
  clear hb1
  have x0 := RowIs.cell (j := 0) R1 rfl; have x1 := RowIs.cell (j := 1) R1 rfl; have x2 := RowIs.cell (j := 2) R1 rfl; have x3 := RowIs.cell (j := 3) R1 rfl; have x9 := fun j => RowIs.frozen R1 j; have x8 := R1.lt
  go_wp2_with fail
  refine (specIn _ _ _ _).mono ?_; rw [hn]; rintro e w2 ⟨rfl, hsame⟩; obtain rfl := hsame.symm; clear hsame
  go_wp2_with fail
  refine wp_region_held_drew (S := (fun u => u.cell? ⟨w.heap.size, 0, none⟩ = some (.int .i64 r) ∧ u.cell? ⟨w.heap.size, 2, none⟩ = some (.int .i64 l) ∧ u.cell? ⟨w.heap.size, 3, none⟩ = some (.int .i64 a))) (by kernel_rfl) (And.intro x0 (And.intro x2 x3)) (fun hS => ?_)
  clear x0 x1 x2 x3 x9 x8
  refine wpAnyH_take (i := 0) (v := ?_) rfl (by kernel_rfl) (by kernel_rfl) (by kernel_rfl) (fun _ _ _ h => h) (Or.inl ⟨by rfl, ?_⟩) hS ?_; rotate_left; focus (intro w hw; clear hw; go_simp; try with_reducible rfl)
  refine wpAnyH_take (i := 1) (v := ?_) rfl (by kernel_rfl) (by kernel_rfl) (by kernel_rfl) (fun _ _ _ h => h) (Or.inl ⟨by rfl, ?_⟩) hS ?_; rotate_left; focus (intro w hw; obtain ⟨l0, l1, l2⟩ := hw; go_simp; try with_reducible rfl)
  refine wpAnyH_take (i := 2) (v := ?_) rfl (by kernel_rfl) (by kernel_rfl) (by kernel_rfl) (fun _ _ _ h => h) (Or.inl ⟨by rfl, ?_⟩) hS ?_; rotate_left; focus (intro w hw; clear hw; go_simp; try with_reducible rfl)
  refine wpAnyH_take (i := 3) (v := ?_) rfl (by kernel_rfl) (by kernel_rfl) (by kernel_rfl) (fun _ _ _ h => h) (Or.inl ⟨by rfl, ?_⟩) hS ?_; rotate_left; focus (intro w hw; clear hw; go_simp; try with_reducible rfl)
  refine wpAnyH_take (i := 4) (v := ?_) rfl (by kernel_rfl) (by kernel_rfl) (by kernel_rfl) (fun _ _ _ h => h) (Or.inl ⟨by rfl, ?_⟩) hS ?_; rotate_left; focus (intro w hw; obtain ⟨l0, l1, l2⟩ := hw; go_simp; try with_reducible rfl)
  refine wpAnyH_take (i := 5) (v := ?_) rfl (by kernel_rfl) (by kernel_rfl) (by kernel_rfl) (fun _ _ _ h => h) (Or.inl ⟨by rfl, ?_⟩) hS ?_; rotate_left; focus (intro w hw; clear hw; go_simp; try with_reducible rfl)
  refine wpAnyH_take (i := 6) (v := ?_) rfl (by kernel_rfl) (by kernel_rfl) (by kernel_rfl) (fun _ _ _ h => h) (Or.inl ⟨by rfl, ?_⟩) hS ?_; rotate_left; focus (intro w hw; clear hw; go_simp; try with_reducible rfl)
  refine wpAnyH_take (i := 7) (v := ?_) rfl (by kernel_rfl) (by kernel_rfl) (by kernel_rfl) (fun _ _ _ h => h) (Or.inl ⟨by rfl, ?_⟩) hS ?_; rotate_left; focus (intro w hw; obtain ⟨l0, l1, l2⟩ := hw; go_simp; try with_reducible rfl)
  refine wpAnyH_take (i := 8) (v := ?_) rfl (by kernel_rfl) (by kernel_rfl) (by kernel_rfl) (fun _ _ _ h => h) (Or.inl ⟨by rfl, ?_⟩) hS ?_; rotate_left; focus (intro w hw; clear hw; go_simp; try with_reducible rfl)
  refine wpAnyH_take (i := 9) (v := ?_) rfl (by kernel_rfl) (by kernel_rfl) (by kernel_rfl) (fun _ _ _ h => h) (Or.inl ⟨by rfl, ?_⟩) hS ?_; rotate_left; focus (intro w hw; clear hw; go_simp; try with_reducible rfl)
  refine wpAnyH_take (i := 10) (v := ?_) rfl (by kernel_rfl) (by kernel_rfl) (by kernel_rfl) (fun _ _ _ h => h) (Or.inl ⟨by rfl, ?_⟩) hS ?_; rotate_left; focus (intro w hw; clear hw; go_simp; try with_reducible rfl)
  refine wpAnyH_take (i := 11) (v := ?_) rfl (by kernel_rfl) (by kernel_rfl) (by kernel_rfl) (fun _ _ _ h => h) (Or.inl ⟨by rfl, ?_⟩) hS ?_; rotate_left; focus (intro w hw; obtain ⟨l0, l1, l2⟩ := hw; go_simp; try with_reducible rfl)
  refine wpAnyH_take (i := 12) (v := ?_) rfl (by kernel_rfl) (by kernel_rfl) (by kernel_rfl) (fun _ _ _ h => h) (Or.inl ⟨by rfl, ?_⟩) hS ?_; rotate_left; focus (intro w hw; clear hw; go_simp; try with_reducible rfl)
  refine wpAnyH_take (i := 13) (v := ?_) rfl (by kernel_rfl) (by kernel_rfl) (by kernel_rfl) (fun _ _ _ h => h) (Or.inl ⟨by rfl, ?_⟩) hS ?_; rotate_left; focus (intro w hw; clear hw; go_simp; try with_reducible rfl)
  refine wpAnyH_take (i := 14) (v := ?_) rfl (by kernel_rfl) (by kernel_rfl) (by kernel_rfl) (fun _ _ _ h => h) (Or.inl ⟨by rfl, ?_⟩) hS ?_; rotate_left; focus (intro w hw; clear hw; go_simp; try with_reducible rfl)
  refine wpAnyH_done (by kernel_rfl) ?_ _
  clear hS
  by_cases ht : 1000000 < a + q
  · go_wp2_with fail
    go_ret
    exact ⟨by rw [← HA.out, if_pos ht]; rfl, b0.drew⟩
  · go_wp2_with fail
    go_ret
    exact ⟨by rw [← HA.out, if_neg (by omega)]; rfl, b0.drew⟩
open Go.ChangeShapes Go.WideShapes Go.ChangeAt Go.Joins in
theorem open_Bucket {H : Type} {enc : TypeId × Value → H} {W : World} {base : Nat} {v : Value} {d : DataW H} {p : List MemPlace} (hv : Value.okWide Try.prog W .any base 36 v)
    (h : DataW.Trod enc Try.prog W 0 (fun _ => true) true 36 v d p) : ∃ b : Bk, v = bv b := by
  obtain ⟨c0, c1, c2, c3, y0, y1, y2, y3, m, rfl, _, _, hy0, hy1, hy2, hy3⟩ := open_agg4 Try.underlying36 (by kernel_rfl) (by kernel_rfl) hv h
  obtain ⟨a, e0, _, wa⟩ := DataW.trod_int Try.underlying2 hy0
  obtain ⟨a1, e1, _, wb⟩ := DataW.trod_int Try.underlying2 hy1
  obtain ⟨a2, e2, _, wc⟩ := DataW.trod_int Try.underlying2 hy2
  obtain ⟨a3, e3, _, wd⟩ := DataW.trod_int Try.underlying2 hy3
  simp at e0 e1 e2 e3
  subst e0 e1 e2 e3
  exact ⟨⟨_, _, _, _⟩, rfl⟩
theorem toBucket1 (b : Bk) (w : World) : Calls Try.prog 22 #[bv b] w fun x w' => x = .returned (bv b) ∧ Below w.heap.size w w' := by
  obtain ⟨r, m, l, a⟩ := b
  dsimp only [bv]
  go_enter Try.func22, Try.ntmps22
  go_wp2_with fail
  go_returns
  exact ⟨rfl, (by repeat' (first | (with_reducible exact Below.refl _ _) | (with_reducible refine Below.drew ?_) | (with_reducible refine bo_drewN _ ?_) | (with_reducible refine bo_alloc ?_ _) | (refine bchain ?_ (by with_reducible assumption)) | (with_reducible refine Below.setCell ?_ ?_ _) | go_size))⟩
theorem eqBucket1 (b : Bk) (w : World) : Calls Try.prog 23 #[bv b, bv b] w fun x w' => x = .returned (.bool true) ∧ Below w.heap.size w w' := by
  obtain ⟨r, m, l, a⟩ := b
  dsimp only [bv]
  go_enter Try.func23, Try.ntmps23
  go_wp2_with fail
  go_ret
  exact ⟨rfl, (by repeat' (first | (with_reducible exact Below.refl _ _) | (with_reducible refine Below.drew ?_) | (with_reducible refine bo_drewN _ ?_) | (with_reducible refine bo_alloc ?_ _) | (refine bchain ?_ (by with_reducible assumption)) | (with_reducible refine Below.setCell ?_ ?_ _) | go_size))⟩
end Go.Proofs.Ythoiefhcaplmiaa
