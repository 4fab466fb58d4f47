/- The ring's own functions: where a row stands, a row put last, the last one dropped. -/
import Derived.Test.YthjbmmppckgcjaaRingMath
import Derived.Test.YthjbmmppckgcjaaRowIs
import Derived.Test.YthjbmmppckgcjaaLater
import Derived.Deep.RegionHeld3



namespace Go.Proofs.Ythjbmmppckgcjaa
open Go.RowKit
set_option linter.unusedSimpArgs false
set_option linter.unusedVariables false

/-- What the loads of a region read. -/
def S3 (b o : Nat) (v : Value) (g : Nat) (x y : Value) (u : World) : Prop := u.cell? ⟨b, o, none⟩ = some v ∧ u.cell? ⟨g, 0, none⟩ = some x ∧ u.cell? ⟨g, 1, none⟩ = some y
theorem slot1 (b first n : Nat) (sl : List Fd) (c g : Int) (w : World) (hs : sl.length = 112) (hr : RowIs w b 63 (rC sl first c g)) (hf : first < 112) (hn : n ≤ 112) :
    Calls Try.prog 65 #[.pointer (some ⟨b, 0, none⟩), .int .i64 n] w fun x w' => x = .returned (.pointer (some ⟨b, (first + n) % 112 * 2, none⟩)) ∧ Below w.heap.size w w' := by
  have c0 := hr.cell (rC_num hs first c g).1
  have hi1 : (0 : Int) ≤ ((first : Int) + n) % 112 ∧ ((first : Int) + n) % 112 < 112 := by omega
  have hi2 : (((first : Int) + n) % 112).toNat = (first + n) % 112 := by omega
  go_enter Try.func65, Try.ntmps65
  go_wp2_with fail
  go_quiet (fail)
  go_wp2_with fail
  go_ret
  exact ⟨rfl, (by repeat' (first | (with_reducible exact Below.refl _ _) | (with_reducible refine Below.drew ?_) | (with_reducible refine bo_drewN _ ?_) | (with_reducible refine bo_alloc ?_ _) | (refine bchain ?_ (by with_reducible assumption)) | (with_reducible refine Below.setCell ?_ ?_ _) | go_size))⟩

set_option maxHeartbeats 2000000 in
theorem putLast1 (b first n : Nat) (sl : List Fd) (g : Int) (f : Fd) (w : World) (hs : sl.length = 112) (hr : RowIs w b 63 (rC sl first n g)) (hf : first < 112) (hn : n ≤ 111) (hff : f.fine) (hg0 : 0 ≤ g) (hg1 : g ≤ 1000000) :
    Calls Try.prog 64 #[.pointer (some ⟨b, 0, none⟩), .agg #[.string f.n, .string f.v]] w fun x w' => x = .returned (.tuple #[]) ∧ RowIs w' b 63 (rC (sl.set ((first + n) % 112) f) first ((n + 1 : Nat) : Int) (g + wt f)) ∧ Turn b (b + 1) w w' := by
  have hbw := hr.lt
  go_enter Try.func64, Try.ntmps64
  go_wp2_with fail
  generalize hV : w.alloc (.cells #[.string f.n, .string f.v] 28) = V; have hbV : Below w.heap.size w V := (by rw [← hV]; exact (Below.refl _ _).alloc (Nat.le_refl _) _); have x0 : World.cell? V ⟨w.heap.size, 0, none⟩ = some (.string f.n) := (by rw [← hV]; simp); have x1 : World.cell? V ⟨w.heap.size, 1, none⟩ = some (.string f.v) := (by rw [← hV]; simp); have hlV : w.heap.size < (World.heap V).size := (by rw [← hV]; simp); clear hV
  have hrV := hr.new hbV
  have hbl : b < V.heap.size := hrV.lt
  have c1 := hrV.cell (rC_num hs first n g).2.1
  have hk : (first + n) % 112 < 112 := by omega
  obtain ⟨k, hkk⟩ : ∃ k, k = (first + n) % 112 := ⟨_, rfl⟩
  rw [← hkk] at hk
  obtain ⟨s0, s1⟩ := rC_slot hs first n g k hk
  have u0 := hrV.cell s0
  have u1 := hrV.cell s1
  have HK := hide hkk
  have z0 := hrV.frozen (k * 2)
  have z1 := hrV.frozen (k * 2 + 1)
  have hne : ¬ b = w.heap.size := by omega
  clear s0 s1 hkk
  have HRV := hide hrV
  clear hr hrV
  have hS0 := And.intro c1 (And.intro x0 x1)
  refine wp_region_held_drew (S := (S3 b 225 (.int .i64 n) w.heap.size (.string f.n) (.string f.v))) (by kernel_rfl) hS0 (fun hS => ?_)
  clear hS0
  refine wpAnyH_take (i := 0) (v := ?_) rfl (by kernel_rfl) (by kernel_rfl) (by kernel_rfl) (fun _ _ _ h => h) (Or.inl ⟨by rfl, ?_⟩) hS ?_; rotate_left; focus (intro w hw; clear hw; go_simp; try with_reducible rfl)
  refine wpAnyH_take (i := 1) (v := ?_) rfl (by kernel_rfl) (by kernel_rfl) (by kernel_rfl) (fun _ _ _ h => h) (Or.inl ⟨by rfl, ?_⟩) hS ?_; rotate_left; focus (intro w hw; clear hw; go_simp; try with_reducible rfl)
  refine wpAnyH_take (i := 2) (v := ?_) rfl (by kernel_rfl) (by kernel_rfl) (by kernel_rfl) (fun _ _ _ h => h) (Or.inl ⟨by rfl, ?_⟩) hS ?_; rotate_left; focus (intro w hw; clear hw; go_simp; try with_reducible rfl)
  refine wpAnyH_take (i := 3) (v := ?_) rfl (by kernel_rfl) (by kernel_rfl) (by kernel_rfl) (fun _ _ _ h => h) (Or.inl ⟨by rfl, ?_⟩) hS ?_; rotate_left; focus (intro w hw; clear hw; go_simp; try with_reducible rfl)
  refine wpAnyH_take (i := 4) (v := ?_) rfl (by kernel_rfl) (by kernel_rfl) (by kernel_rfl) (fun _ _ _ h => h) (Or.inl ⟨by rfl, ?_⟩) hS ?_; rotate_left; focus (intro w hw; obtain ⟨l0, l1, l2⟩ := hw; go_simp; try with_reducible rfl)
  refine wpAnyH_take (i := 6) (v := ?_) rfl (by kernel_rfl) (by kernel_rfl) (by kernel_rfl) (fun _ _ _ h => h) (Or.inl ⟨by rfl, ?_⟩) hS ?_; rotate_left; focus (intro w hw; obtain ⟨l0, l1, l2⟩ := hw; go_simp; try with_reducible rfl)
  refine wpAnyH_ready (rs := [5]) (by kernel_rfl) (by simp) ?_; refine AllReadyH.cons rfl (fun K hK => ?_) AllReadyH.nil; go_simp
  refine (slot1 b first n sl n g _ hs (HRV.out.new (bo_drewN 1 (Below.refl _ _))) hf (by omega)).mono ?_; rw [← HK.out]; rintro x w2 ⟨rfl, hb2⟩
  have hb2' : Below V.heap.size V w2 := bchain (bo_drewN 1 (Below.refl _ _)) hb2
  have c1' := (hb2'.cell (p := ⟨b, 225, none⟩) hbl).trans c1
  have x0' := (hb2'.cell (p := ⟨w.heap.size, 0, none⟩) hlV).trans x0
  have x1' := (hb2'.cell (p := ⟨w.heap.size, 1, none⟩) hlV).trans x1
  have u0' := (hb2'.cell (p := ⟨b, k * 2, none⟩) hbl).trans u0
  have u1' := (hb2'.cell (p := ⟨b, k * 2 + 1, none⟩) hbl).trans u1
  have z0' := (hb2'.frozen (p := ⟨b, k * 2, none⟩) hbl).trans z0
  have z1' := (hb2'.frozen (p := ⟨b, k * 2 + 1, none⟩) hbl).trans z1
  refine hK.out _ _ ⟨c1', x0', x1'⟩ (fun hS => ?_)
  clear hK K c1 u0 u1 z0 z1 hb2
  refine wpAnyH_take (i := 7) (v := ?_) rfl (by kernel_rfl) (by kernel_rfl) (by kernel_rfl) (fun _ _ _ h => h) (Or.inl ⟨by rfl, ?_⟩) hS ?_; rotate_left; focus (intro w hw; clear hw; go_simp; try with_reducible rfl)
  refine wpAnyH_ready (rs := [8]) (by kernel_rfl) (by simp) ?_; refine AllReadyH.cons rfl (fun K hK => ?_) AllReadyH.nil; go_simp
  have hk1 : ¬ k * 2 = 225 := by omega
  have hk2 : ¬ k * 2 + 1 = 225 := by omega
  have hr3 := ((HRV.out.new hb2').set (k * 2) (.string f.n)).set (k * 2 + 1) (.string f.v)
  rw [rC_setF hs _ _ _ k hk f] at hr3
  have hs' : (sl.set k f).length = 112 := by simp [hs]
  have ht3 : Turn b (b + 1) V ((w2.setCell ⟨b, k * 2, none⟩ (.string f.n)).setCell ⟨b, k * 2 + 1, none⟩ (.string f.v)) :=
    ((turn_new hb2' b (b + 1)).setCell _ (.inl ⟨Nat.le_refl _, by simp⟩)).setCell _ (.inl ⟨Nat.le_refl _, by simp⟩)
  generalize (w2.setCell ⟨b, k * 2, none⟩ (.string f.n)).setCell ⟨b, k * 2 + 1, none⟩ (.string f.v) = w3 at *
  have y0 := (ht3.cell w.heap.size 0 hlV (by omega)).trans x0
  have y1 := (ht3.cell w.heap.size 1 hlV (by omega)).trans x1
  have c3 := hr3.cell (rC_num hs' first n g).2.1
  have q3 := hr3.frozen 225
  refine hK.out _ _ ⟨c3, y0, y1⟩ (fun _ => ?_)
  clear hK K hS c1' x0' x1' u0' u1' z0' z1' hb2' w2
  refine wpAnyH_done (by kernel_rfl) ?_ _
  have HR3 := hide hr3
  clear hr3
  go_wp2_with fail
  have hr4 := HR3.out.set 225 (.int .i64 ((n : Int) + 1))
  rw [rC_set225 hs'] at hr4
  have ht4 := ht3.setCell (p := ⟨b, 225, none⟩) (.int .i64 ((n : Int) + 1)) (.inl ⟨Nat.le_refl _, by simp⟩)
  generalize w3.setCell ⟨b, 225, none⟩ (.int .i64 ((n : Int) + 1)) = w4 at *
  replace y0 := (ht4.cell w.heap.size 0 hlV (by omega)).trans x0
  replace y1 := (ht4.cell w.heap.size 1 hlV (by omega)).trans x1
  have d2 := hr4.cell (rC_num hs' first ((n : Int) + 1) g).2.2
  have d3 := hr4.frozen 226
  have hblW := hr4.lt
  have hzr := wt_range f
  obtain ⟨z, hz⟩ : ∃ z, wt f = z := ⟨_, rfl⟩
  rw [hz] at hzr
  have fin : ∀ w5, Below w4.heap.size w4 w5 → RowIs (w5.setCell ⟨b, 226, none⟩ (.int .i64 (g + z))) b 63 (rC (sl.set ((first + n) % 112) f) first ((n + 1 : Nat) : Int) (g + wt f)) ∧ Turn b (b + 1) w (w5.setCell ⟨b, 226, none⟩ (.int .i64 (g + z))) := fun w5 h5 => by
    have hr5 := (hr4.new h5).set 226 (.int .i64 (g + z))
    rw [rC_set226 hs', HK.out] at hr5
    rw [hz]
    refine ⟨hr5, ((turn_new hbV b (b + 1)).trans (ht4.trans (turn_new h5 b (b + 1)))).setCell _ (.inl ⟨Nat.le_refl _, by simp⟩)⟩
  have HZ := hide hz
  clear hz x0 x1 c3 q3 ht4 ht3 hr4 HR3 HRV
  have hzw : IntKind.i64.wrap (g + z) = g + z := by rw [IntKind.wrap_i64]; omega
  refine wp_region_any (by kernel_rfl) ?_; change wpAny _ _ _ _ _ _ _ (World.drew _)
  refine wpAny_take (i := 0) (v := ?_) rfl (by kernel_rfl) (by kernel_rfl) (by kernel_rfl) (fun _ _ _ h => h) (Or.inl ⟨by rfl, ?_⟩) ?_; rotate_left; focus (intro w; go_simp; try with_reducible rfl)
  refine wpAny_take (i := 1) (v := ?_) rfl (by kernel_rfl) (by kernel_rfl) (by kernel_rfl) (fun _ _ _ h => h) (Or.inl ⟨by rfl, ?_⟩) ?_; rotate_left; focus (intro w; go_simp; try with_reducible rfl)
  refine wpAny_take (i := 2) (v := ?_) rfl (by kernel_rfl) (by kernel_rfl) (by kernel_rfl) (fun _ _ _ h => h) (Or.inl ⟨by rfl, ?_⟩) ?_; rotate_left; focus (intro w; go_simp; try with_reducible rfl)
  refine wpAny_ready (rs := [3, 4]) (by kernel_rfl) (by simp) ?_; refine AllReady.cons rfl (fun K hK => ?_) (AllReady.cons rfl (fun K hK => ?_) AllReady.nil)
  · go_simp; refine hK _ _ ?_; clear hK K
    refine wpAny_ready (rs := [4]) (by kernel_rfl) (by simp) ?_; refine AllReady.cons rfl (fun K hK => ?_) AllReady.nil
    go_simp; refine hK _ _ ?_; clear hK K
    refine wpAny_ready (rs := [5]) (by kernel_rfl) (by simp) ?_; refine AllReady.cons rfl (fun K hK => ?_) AllReady.nil
    go_simp
    refine (implWt f _ hff).mono ?_; rw [HZ.out]; rintro x w5 ⟨rfl, hb5⟩
    have hb5' : Below w4.heap.size w4 w5 := bchain (bo_drewN 1 (Below.refl _ _)) hb5
    have e2 := (hb5'.cell (p := ⟨b, 226, none⟩) hblW).trans d2
    have e3 := (hb5'.frozen (p := ⟨b, 226, none⟩) hblW).trans d3
    refine hK _ _ ?_
    clear hK K
    refine wpAny_take (i := 6) (v := ?_) rfl (by kernel_rfl) (by kernel_rfl) (by kernel_rfl) (fun _ _ _ h => h) (Or.inl ⟨by rfl, ?_⟩) ?_; rotate_left; focus (intro w; go_simp; try with_reducible rfl)
    refine wpAny_take (i := 7) (v := ?_) rfl (by kernel_rfl) (by kernel_rfl) (by kernel_rfl) (fun _ _ _ h => h) (Or.inl ⟨by rfl, ?_⟩) ?_; rotate_left; focus (intro w; go_simp; try with_reducible rfl)
    refine wpAny_take (i := 8) (v := ?_) rfl (by kernel_rfl) (by kernel_rfl) (by kernel_rfl) (fun _ _ _ h => h) (Or.inl ⟨by rfl, ?_⟩) ?_; rotate_left; focus (intro w; go_simp; try with_reducible rfl)
    refine wpAny_ready (rs := [9]) (by kernel_rfl) (by simp) ?_; refine AllReady.cons rfl (fun K hK => ?_) AllReady.nil
    go_simp; refine hK _ _ ?_; clear hK K
    refine wpAny_done (by kernel_rfl) ?_ _
    go_wp2_with fail
    refine bodyPost_end (v := .tuple #[]) (by simp [results, Try.results64, go_sem]) rfl ?_
    exact ⟨rfl, fin _ hb5'⟩
  · go_simp; refine hK _ _ ?_; clear hK K
    refine wpAny_ready (rs := [3, 5]) (by kernel_rfl) (by simp) ?_; refine AllReady.cons rfl (fun K hK => ?_) (AllReady.cons rfl (fun K hK => ?_) AllReady.nil)
    · go_simp; refine hK _ _ ?_; clear hK K
      refine wpAny_ready (rs := [5]) (by kernel_rfl) (by simp) ?_; refine AllReady.cons rfl (fun K hK => ?_) AllReady.nil
      go_simp
      refine (implWt f _ hff).mono ?_; rw [HZ.out]; rintro x w5 ⟨rfl, hb5⟩
      have hb5' : Below w4.heap.size w4 w5 := bchain (bo_drewN 1 (Below.refl _ _)) hb5
      have e2 := (hb5'.cell (p := ⟨b, 226, none⟩) hblW).trans d2
      have e3 := (hb5'.frozen (p := ⟨b, 226, none⟩) hblW).trans d3
      refine hK _ _ ?_
      clear hK K
      refine wpAny_take (i := 6) (v := ?_) rfl (by kernel_rfl) (by kernel_rfl) (by kernel_rfl) (fun _ _ _ h => h) (Or.inl ⟨by rfl, ?_⟩) ?_; rotate_left; focus (intro w; go_simp; try with_reducible rfl)
      refine wpAny_take (i := 7) (v := ?_) rfl (by kernel_rfl) (by kernel_rfl) (by kernel_rfl) (fun _ _ _ h => h) (Or.inl ⟨by rfl, ?_⟩) ?_; rotate_left; focus (intro w; go_simp; try with_reducible rfl)
      refine wpAny_take (i := 8) (v := ?_) rfl (by kernel_rfl) (by kernel_rfl) (by kernel_rfl) (fun _ _ _ h => h) (Or.inl ⟨by rfl, ?_⟩) ?_; rotate_left; focus (intro w; go_simp; try with_reducible rfl)
      refine wpAny_ready (rs := [9]) (by kernel_rfl) (by simp) ?_; refine AllReady.cons rfl (fun K hK => ?_) AllReady.nil
      go_simp; refine hK _ _ ?_; clear hK K
      refine wpAny_done (by kernel_rfl) ?_ _
      go_wp2_with fail
      refine bodyPost_end (v := .tuple #[]) (by simp [results, Try.results64, go_sem]) rfl ?_
      exact ⟨rfl, fin _ hb5'⟩
    · go_simp
      refine (implWt f _ hff).mono ?_; rw [HZ.out]; rintro x w5 ⟨rfl, hb5⟩
      have hb5' : Below w4.heap.size w4 w5 := bchain (bo_drewN 1 (Below.refl _ _)) hb5
      have e2 := (hb5'.cell (p := ⟨b, 226, none⟩) hblW).trans d2
      have e3 := (hb5'.frozen (p := ⟨b, 226, none⟩) hblW).trans d3
      refine hK _ _ ?_
      clear hK K
      refine wpAny_ready (rs := [3]) (by kernel_rfl) (by simp) ?_; refine AllReady.cons rfl (fun K hK => ?_) AllReady.nil
      go_simp; refine hK _ _ ?_; clear hK K
      refine wpAny_take (i := 6) (v := ?_) rfl (by kernel_rfl) (by kernel_rfl) (by kernel_rfl) (fun _ _ _ h => h) (Or.inl ⟨by rfl, ?_⟩) ?_; rotate_left; focus (intro w; go_simp; try with_reducible rfl)
      refine wpAny_take (i := 7) (v := ?_) rfl (by kernel_rfl) (by kernel_rfl) (by kernel_rfl) (fun _ _ _ h => h) (Or.inl ⟨by rfl, ?_⟩) ?_; rotate_left; focus (intro w; go_simp; try with_reducible rfl)
      refine wpAny_take (i := 8) (v := ?_) rfl (by kernel_rfl) (by kernel_rfl) (by kernel_rfl) (fun _ _ _ h => h) (Or.inl ⟨by rfl, ?_⟩) ?_; rotate_left; focus (intro w; go_simp; try with_reducible rfl)
      refine wpAny_ready (rs := [9]) (by kernel_rfl) (by simp) ?_; refine AllReady.cons rfl (fun K hK => ?_) AllReady.nil
      go_simp; refine hK _ _ ?_; clear hK K
      refine wpAny_done (by kernel_rfl) ?_ _
      go_wp2_with fail
      refine bodyPost_end (v := .tuple #[]) (by simp [results, Try.results64, go_sem]) rfl ?_
      exact ⟨rfl, fin _ hb5'⟩
end Go.Proofs.Ythjbmmppckgcjaa
