/- The ring's own functions: a row put first, the last one dropped. -/
import Derived.Test.YtkhclhnejnpkeaaGreatQNgG7
namespace Go.Proofs.YtkhclhnejnpkeaaGreat
open Go.RowKit
set_option maxRecDepth 100000
set_option linter.unusedSimpArgs false
set_option linter.unusedVariables false

theorem box_cell0 (u : World) (s : Nat) (h : u.heap.size = s) (x y : Value) (t : TypeId) : (u.alloc (.cells #[x, y] t)).cell? ⟨s, 0, none⟩ = some x := by subst h; simp
theorem box_cell1 (u : World) (s : Nat) (h : u.heap.size = s) (x y : Value) (t : TypeId) : (u.alloc (.cells #[x, y] t)).cell? ⟨s, 1, none⟩ = some y := by subst h; simp
set_option maxHeartbeats 4000000 in
theorem dropLast1 (b first n : Nat) (sl : List Fd) (g : Int) (f : Fd) (w : World) (hs : sl.length = 112) (hr : RowIs w b 193 (rC sl first ((n + 1 : Nat) : Int) g)) (hf : first < 112) (hn : n ≤ 111) (hsl : sl[(first + n) % 112]'(by omega) = f) (hff : f.fine) (hg0 : 0 ≤ g) (hg1 : g ≤ 1000000) :
    Calls Tryz.prog 165 #[.pointer (some ⟨b, 0, none⟩)] w fun x w' => x = .returned (.tuple #[]) ∧ RowIs w' b 193 (rC (sl.set ((first + n) % 112) zF) first n (g - wt f)) ∧ Turn b (b + 1) w w' := by
  have hbw := hr.lt
  have c0 := hr.cell (rC_num hs first ((n + 1 : Nat) : Int) g).2.1
  have q0 := hr.frozen 225
  have hn1 : ((n + 1 : Nat) : Int) - 1 = n := by omega
  have hn2 : ((n : Int) + 1) - 1 = n := by omega
  have HR := hide hr
  clear hr
  go_enter Tryz.func165, Tryz.ntmps165
  go_wp2_with fail
  have hr1 := HR.out.set 225 (.int .i64 n)
  rw [rC_set225 hs] at hr1
  have ht1 : Turn b (b + 1) w (w.setCell ⟨b, 225, none⟩ (.int .i64 n)) := (Turn.refl _ _ _).setCell (p := ⟨b, 225, none⟩) (.int .i64 n) (.inl ⟨Nat.le_refl _, by simp⟩)
  generalize w.setCell ⟨b, 225, none⟩ (.int .i64 n) = w1 at *
  refine (slot1 b first n sl n g _ hs hr1 hf (by omega)).mono ?_
  have hk : (first + n) % 112 < 112 := by omega
  obtain ⟨k, hkk⟩ : ∃ k, k = (first + n) % 112 := ⟨_, rfl⟩
  have hslk : sl[k]'(by omega) = f := by simp only [hkk]; exact hsl
  rw [← hkk] at hk ⊢
  rintro x w2 ⟨rfl, hb2⟩
  have hr2 := hr1.new hb2
  have ht2 := ht1.trans (turn_new hb2 b (b + 1))
  obtain ⟨s0, s1⟩ := rC_slot hs first n g k hk
  rw [hslk] at s0 s1
  have u0 := hr2.cell s0
  have u1 := hr2.cell s1
  have d2 := hr2.cell (rC_num hs first n g).2.2
  have d3 := hr2.frozen 226
  have hblW := hr2.lt
  have HK := hide hkk
  have hzr := wt_range f
  obtain ⟨z, hz⟩ : ∃ z, wt f = z := ⟨_, rfl⟩
  rw [hz] at hzr
  have fin : ∀ w5, Below w2.heap.size w2 w5 → RowIs (w5.setCell ⟨b, 226, none⟩ (.int .i64 (g - z))) b 193 (rC sl first n (g - z)) ∧ Turn b (b + 1) w (w5.setCell ⟨b, 226, none⟩ (.int .i64 (g - z))) := fun w5 h5 => by
    have hr5 := (hr2.new h5).set 226 (.int .i64 (g - z))
    rw [rC_set226 hs] at hr5
    exact ⟨hr5, (ht2.trans (turn_new h5 b (b + 1))).setCell _ (.inl ⟨Nat.le_refl _, by simp⟩)⟩
  have FIN := hide fin
  have HZ := hide hz
  clear hz fin s0 s1 hsl hslk hr1 hr2 ht1 ht2 hb2 hkk c0 q0 HR
  go_wp2_with fail
  have hzw : IntKind.i64.wrap (g - z) = g - z := by rw [IntKind.wrap_i64]; omega
  refine wp_region_any (by kernel_rfl) ?_; change wpAny _ _ _ _ _ _ _ (World.drew _)
  refine wpAny_take (i := 0) (v := ?_) rfl (by kernel_rfl) (by kernel_rfl) (by kernel_rfl) (fun _ _ _ h => h) (Or.inl ⟨by rfl, ?_⟩) ?_; rotate_left; focus (intro w; go_simp; try with_reducible rfl)
  refine wpAny_take (i := 1) (v := ?_) rfl (by kernel_rfl) (by kernel_rfl) (by kernel_rfl) (fun _ _ _ h => h) (Or.inl ⟨by rfl, ?_⟩) ?_; rotate_left; focus (intro w; go_simp; try with_reducible rfl)
  refine wpAny_take (i := 2) (v := ?_) rfl (by kernel_rfl) (by kernel_rfl) (by kernel_rfl) (fun _ _ _ h => h) (Or.inl ⟨by rfl, ?_⟩) ?_; rotate_left; focus (intro w; go_simp; try with_reducible rfl)
  refine wpAny_take (i := 4) (v := ?_) rfl (by kernel_rfl) (by kernel_rfl) (by kernel_rfl) (fun _ _ _ h => h) (Or.inl ⟨by rfl, ?_⟩) ?_; rotate_left; focus (intro w; go_simp; try with_reducible rfl)
  refine wpAny_take (i := 5) (v := ?_) rfl (by kernel_rfl) (by kernel_rfl) (by kernel_rfl) (fun _ _ _ h => h) (Or.inl ⟨by rfl, ?_⟩) ?_; rotate_left; focus (intro w; go_simp; try with_reducible rfl)
  refine wpAny_ready (rs := [3, 6]) (by kernel_rfl) (by simp) ?_; refine AllReady.cons rfl (fun K hK => ?_) (AllReady.cons rfl (fun K hK => ?_) AllReady.nil)
  · go_simp; refine hK _ _ ?_; clear hK K
    refine wpAny_ready (rs := [6]) (by kernel_rfl) (by simp) ?_; refine AllReady.cons rfl (fun K hK => ?_) AllReady.nil
    go_simp; refine hK _ _ ?_; clear hK K
    refine wpAny_ready (rs := [7]) (by kernel_rfl) (by simp) ?_; refine AllReady.cons rfl (fun K hK => ?_) AllReady.nil
    go_simp
    refine (implWt f _ hff).mono ?_; rw [HZ.out]; rintro x w5 ⟨rfl, hb5⟩
    have hb5' : Below w2.heap.size w2 w5 := bchain (bo_drewN 1 (Below.refl _ _)) hb5
    have e2 := (hb5'.cell (p := ⟨b, 226, none⟩) hblW).trans d2
    have e3 := (hb5'.frozen (p := ⟨b, 226, none⟩) hblW).trans d3
    refine hK _ _ ?_
    clear hK K
    refine wpAny_take (i := 8) (v := ?_) rfl (by kernel_rfl) (by kernel_rfl) (by kernel_rfl) (fun _ _ _ h => h) (Or.inl ⟨by rfl, ?_⟩) ?_; rotate_left; focus (intro w; go_simp; try with_reducible rfl)
    refine wpAny_take (i := 9) (v := ?_) rfl (by kernel_rfl) (by kernel_rfl) (by kernel_rfl) (fun _ _ _ h => h) (Or.inl ⟨by rfl, ?_⟩) ?_; rotate_left; focus (intro w; go_simp; try with_reducible rfl)
    refine wpAny_take (i := 10) (v := ?_) rfl (by kernel_rfl) (by kernel_rfl) (by kernel_rfl) (fun _ _ _ h => h) (Or.inl ⟨by rfl, ?_⟩) ?_; rotate_left; focus (intro w; go_simp; try with_reducible rfl)
    refine wpAny_ready (rs := [11]) (by kernel_rfl) (by simp) ?_; refine AllReady.cons rfl (fun K hK => ?_) AllReady.nil
    go_simp; refine hK _ _ ?_; clear hK K
    refine wpAny_done (by kernel_rfl) ?_ _
    obtain ⟨hr6, ht6⟩ := FIN.out _ hb5'
    generalize w5.setCell ⟨b, 226, none⟩ (.int .i64 (g - z)) = w6 at *
    obtain ⟨s0, s1⟩ := rC_slot hs first n (g - z) k hk
    have v0 := hr6.cell s0
    have v1 := hr6.cell s1
    have p0 := hr6.frozen (k * 2)
    have p1 := hr6.frozen (k * 2 + 1)
    have HR6 := hide hr6
    clear s0 s1 hr6 u0 u1 e2 e3
    go_wp2_with fail
    refine bodyPost_end (v := .tuple #[]) (by simp [results, Tryz.results165, go_sem]) rfl ?_
    have hr7 := (HR6.out.set (k * 2) (.string zF.n)).set (k * 2 + 1) (.string zF.v)
    rw [rC_setF hs _ _ _ k hk zF] at hr7
    exact ⟨rfl, by rw [HZ.out, ← HK.out]; exact hr7, (ht6.setCell _ (.inl ⟨Nat.le_refl _, by simp⟩)).setCell _ (.inl ⟨Nat.le_refl _, by simp⟩)⟩
  · go_simp; refine hK _ _ ?_; clear hK K
    refine wpAny_ready (rs := [3, 7]) (by kernel_rfl) (by simp) ?_; refine AllReady.cons rfl (fun K hK => ?_) (AllReady.cons rfl (fun K hK => ?_) AllReady.nil)
    · go_simp; refine hK _ _ ?_; clear hK K
      refine wpAny_ready (rs := [7]) (by kernel_rfl) (by simp) ?_; refine AllReady.cons rfl (fun K hK => ?_) AllReady.nil
      go_simp
      refine (implWt f _ hff).mono ?_; rw [HZ.out]; rintro x w5 ⟨rfl, hb5⟩
      have hb5' : Below w2.heap.size w2 w5 := bchain (bo_drewN 1 (Below.refl _ _)) hb5
      have e2 := (hb5'.cell (p := ⟨b, 226, none⟩) hblW).trans d2
      have e3 := (hb5'.frozen (p := ⟨b, 226, none⟩) hblW).trans d3
      refine hK _ _ ?_
      clear hK K
      refine wpAny_take (i := 8) (v := ?_) rfl (by kernel_rfl) (by kernel_rfl) (by kernel_rfl) (fun _ _ _ h => h) (Or.inl ⟨by rfl, ?_⟩) ?_; rotate_left; focus (intro w; go_simp; try with_reducible rfl)
      refine wpAny_take (i := 9) (v := ?_) rfl (by kernel_rfl) (by kernel_rfl) (by kernel_rfl) (fun _ _ _ h => h) (Or.inl ⟨by rfl, ?_⟩) ?_; rotate_left; focus (intro w; go_simp; try with_reducible rfl)
      refine wpAny_take (i := 10) (v := ?_) rfl (by kernel_rfl) (by kernel_rfl) (by kernel_rfl) (fun _ _ _ h => h) (Or.inl ⟨by rfl, ?_⟩) ?_; rotate_left; focus (intro w; go_simp; try with_reducible rfl)
      refine wpAny_ready (rs := [11]) (by kernel_rfl) (by simp) ?_; refine AllReady.cons rfl (fun K hK => ?_) AllReady.nil
      go_simp; refine hK _ _ ?_; clear hK K
      refine wpAny_done (by kernel_rfl) ?_ _
      obtain ⟨hr6, ht6⟩ := FIN.out _ hb5'
      generalize w5.setCell ⟨b, 226, none⟩ (.int .i64 (g - z)) = w6 at *
      obtain ⟨s0, s1⟩ := rC_slot hs first n (g - z) k hk
      have v0 := hr6.cell s0
      have v1 := hr6.cell s1
      have p0 := hr6.frozen (k * 2)
      have p1 := hr6.frozen (k * 2 + 1)
      have HR6 := hide hr6
      clear s0 s1 hr6 u0 u1 e2 e3
      go_wp2_with fail
      refine bodyPost_end (v := .tuple #[]) (by simp [results, Tryz.results165, go_sem]) rfl ?_
      have hr7 := (HR6.out.set (k * 2) (.string zF.n)).set (k * 2 + 1) (.string zF.v)
      rw [rC_setF hs _ _ _ k hk zF] at hr7
      exact ⟨rfl, by rw [HZ.out, ← HK.out]; exact hr7, (ht6.setCell _ (.inl ⟨Nat.le_refl _, by simp⟩)).setCell _ (.inl ⟨Nat.le_refl _, by simp⟩)⟩
    · go_simp
      refine (implWt f _ hff).mono ?_; rw [HZ.out]; rintro x w5 ⟨rfl, hb5⟩
      have hb5' : Below w2.heap.size w2 w5 := bchain (bo_drewN 1 (Below.refl _ _)) hb5
      have e2 := (hb5'.cell (p := ⟨b, 226, none⟩) hblW).trans d2
      have e3 := (hb5'.frozen (p := ⟨b, 226, none⟩) hblW).trans d3
      refine hK _ _ ?_
      clear hK K
      refine wpAny_ready (rs := [3]) (by kernel_rfl) (by simp) ?_; refine AllReady.cons rfl (fun K hK => ?_) AllReady.nil
      go_simp; refine hK _ _ ?_; clear hK K
      refine wpAny_take (i := 8) (v := ?_) rfl (by kernel_rfl) (by kernel_rfl) (by kernel_rfl) (fun _ _ _ h => h) (Or.inl ⟨by rfl, ?_⟩) ?_; rotate_left; focus (intro w; go_simp; try with_reducible rfl)
      refine wpAny_take (i := 9) (v := ?_) rfl (by kernel_rfl) (by kernel_rfl) (by kernel_rfl) (fun _ _ _ h => h) (Or.inl ⟨by rfl, ?_⟩) ?_; rotate_left; focus (intro w; go_simp; try with_reducible rfl)
      refine wpAny_take (i := 10) (v := ?_) rfl (by kernel_rfl) (by kernel_rfl) (by kernel_rfl) (fun _ _ _ h => h) (Or.inl ⟨by rfl, ?_⟩) ?_; rotate_left; focus (intro w; go_simp; try with_reducible rfl)
      refine wpAny_ready (rs := [11]) (by kernel_rfl) (by simp) ?_; refine AllReady.cons rfl (fun K hK => ?_) AllReady.nil
      go_simp; refine hK _ _ ?_; clear hK K
      refine wpAny_done (by kernel_rfl) ?_ _
      obtain ⟨hr6, ht6⟩ := FIN.out _ hb5'
      generalize w5.setCell ⟨b, 226, none⟩ (.int .i64 (g - z)) = w6 at *
      obtain ⟨s0, s1⟩ := rC_slot hs first n (g - z) k hk
      have v0 := hr6.cell s0
      have v1 := hr6.cell s1
      have p0 := hr6.frozen (k * 2)
      have p1 := hr6.frozen (k * 2 + 1)
      have HR6 := hide hr6
      clear s0 s1 hr6 u0 u1 e2 e3
      go_wp2_with fail
      refine bodyPost_end (v := .tuple #[]) (by simp [results, Tryz.results165, go_sem]) rfl ?_
      have hr7 := (HR6.out.set (k * 2) (.string zF.n)).set (k * 2 + 1) (.string zF.v)
      rw [rC_setF hs _ _ _ k hk zF] at hr7
      exact ⟨rfl, by rw [HZ.out, ← HK.out]; exact hr7, (ht6.setCell _ (.inl ⟨Nat.le_refl _, by simp⟩)).setCell _ (.inl ⟨Nat.le_refl _, by simp⟩)⟩

end Go.Proofs.YtkhclhnejnpkeaaGreat
