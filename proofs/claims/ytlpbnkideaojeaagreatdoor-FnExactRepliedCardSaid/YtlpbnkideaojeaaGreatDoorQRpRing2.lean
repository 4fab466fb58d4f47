/- Lemmas. -/
import Derived.Test.YtlpbnkideaojeaaGreatDoorQRpG7
namespace Go.Proofs.YtlpbnkideaojeaaGreatDoor
open Go.RowKit
set_option maxRecDepth 100000
set_option linter.unusedSimpArgs false
set_option linter.unusedVariables false
theorem Iz (u : World) (s : Nat) (h : u.heap.size = s) (x y : Value) (t : TypeId) : (u.alloc (.cells #[x, y] t)).cell? ⟨s, 0, none⟩ = some x := by subst h; simp
theorem IB (u : World) (s : Nat) (h : u.heap.size = s) (x y : Value) (t : TypeId) : (u.alloc (.cells #[x, y] t)).cell? ⟨s, 1, none⟩ = some y := by subst h; simp
set_option maxHeartbeats 4000000 in
theorem Yx (b first n : Nat) (sl : List Fd) (g : Int) (f : Fd) (w : World) (hs : sl.length = 112) (hr : aj w b 172 (rC sl first ((n + 1 : Nat) : Int) g)) (hf : first < 112) (hn : n ≤ 111) (hsl : sl[(first + n) % 112]'(by omega) = f) (bK : f.fine) (hg0 : 0 ≤ g) (hg1 : g ≤ 1000000) :
  Calls Tryz.prog 164 #[.pointer (some ⟨b, 0, none⟩)] w fun x w' => x = .returned (.tuple #[]) ∧ aj w' b 172 (rC (sl.set ((first + n) % 112) zF) first n (g - wt f)) ∧ Turn b (b + 1) w w' := by
 have hbw := hr.lt
 have c0 := hr.cell (ku hs first ((n + 1 : Nat) : Int) g).2.1
 have q0 := hr.frozen 225
 have hn1 : ((n + 1 : Nat) : Int) - 1 = n := by omega
 have hn2 : ((n : Int) + 1) - 1 = n := by omega
 have HR := hide hr
 clear hr
 go_enter Tryz.func164, Tryz.ntmps164
 go_wp2_with fail
 have hr1 := HR.out.set 225 (.int .i64 n)
 rw [Gn hs] at hr1
 have ht1 : Turn b (b + 1) w (w.setCell ⟨b, 225, none⟩ (.int .i64 n)) := (Turn.refl _ _ _).setCell (p := ⟨b, 225, none⟩) (.int .i64 n) (.inl ⟨Nat.le_refl _, by simp⟩)
 generalize w.setCell ⟨b, 225, none⟩ (.int .i64 n) = w1 at *
 refine (wF b first n sl n g _ hs hr1 hf (by omega)).mono ?_
 have hk : (first + n) % 112 < 112 := by omega
 obtain ⟨k, hkk⟩ : ∃ k, k = (first + n) % 112 := ⟨_, rfl⟩
 have OT : sl[k]'(by omega) = f := by simp only [hkk]; exact hsl
 rw [← hkk] at hk ⊢
 rintro x w2 ⟨rfl, hb2⟩
 have hr2 := hr1.new hb2
 have ht2 := ht1.trans (iL hb2 b (b + 1))
 obtain ⟨s0, s1⟩ := rT hs first n g k hk
 rw [OT] at s0 s1
 have u0 := hr2.cell s0
 have u1 := hr2.cell s1
 have d2 := hr2.cell (ku hs first n g).2.2
 have d3 := hr2.frozen 226
 have jA := hr2.lt
 have HK := hide hkk
 have zX := zY f
 obtain ⟨z, hz⟩ : ∃ z, wt f = z := ⟨_, rfl⟩
 rw [hz] at zX
 have fin : ∀ w5, Below w2.heap.size w2 w5 → aj (w5.setCell ⟨b, 226, none⟩ (.int .i64 (g - z))) b 172 (rC sl first n (g - z)) ∧ Turn b (b + 1) w (w5.setCell ⟨b, 226, none⟩ (.int .i64 (g - z))) := fun w5 h5 => by
  have oK := (hr2.new h5).set 226 (.int .i64 (g - z))
  rw [Gp hs] at oK
  exact ⟨oK, (ht2.trans (iL h5 b (b + 1))).setCell _ (.inl ⟨Nat.le_refl _, by simp⟩)⟩
 have FIN := hide fin
 have HZ := hide hz
 clear hz fin s0 s1 hsl OT hr1 hr2 ht1 ht2 hb2 hkk c0 q0 HR
 go_wp2_with fail
 have rU : IntKind.i64.wrap (g - z) = g - z := by rw [IntKind.wrap_i64]; omega
 refine wp_region_any (by kernel_rfl) ?_; change wpAny _ _ _ _ _ _ _ (World.drew _)
 refine wpAny_take (i := 0) (v := ?_) rfl (by kernel_rfl) (by kernel_rfl) (by kernel_rfl) (fun _ _ _ h => h) (Or.inl ⟨by rfl, ?_⟩) ?_; rotate_left; focus (intro w; go_simp; try with_reducible rfl)
 refine wpAny_take (i := 1) (v := ?_) rfl (by kernel_rfl) (by kernel_rfl) (by kernel_rfl) (fun _ _ _ h => h) (Or.inl ⟨by rfl, ?_⟩) ?_; rotate_left; focus (intro w; go_simp; try with_reducible rfl)
 refine wpAny_take (i := 2) (v := ?_) rfl (by kernel_rfl) (by kernel_rfl) (by kernel_rfl) (fun _ _ _ h => h) (Or.inl ⟨by rfl, ?_⟩) ?_; rotate_left; focus (intro w; go_simp; try with_reducible rfl)
 refine wpAny_take (i := 4) (v := ?_) rfl (by kernel_rfl) (by kernel_rfl) (by kernel_rfl) (fun _ _ _ h => h) (Or.inl ⟨by rfl, ?_⟩) ?_; rotate_left; focus (intro w; go_simp; try with_reducible rfl)
 refine wpAny_take (i := 5) (v := ?_) rfl (by kernel_rfl) (by kernel_rfl) (by kernel_rfl) (fun _ _ _ h => h) (Or.inl ⟨by rfl, ?_⟩) ?_; rotate_left; focus (intro w; go_simp; try with_reducible rfl)
 refine wpAny_ready (rs := [3, 6]) (by kernel_rfl) (by simp) ?_; refine AllReady.cons rfl (fun K hK => ?_) (AllReady.cons rfl (fun K hK => ?_) AllReady.nil)
 ·go_simp; refine hK _ _ ?_; clear hK K
  refine wpAny_ready (rs := [6]) (by kernel_rfl) (by simp) ?_; refine AllReady.cons rfl (fun K hK => ?_) AllReady.nil
  go_simp; refine hK _ _ ?_; clear hK K
  refine wpAny_ready (rs := [7]) (by kernel_rfl) (by simp) ?_; refine AllReady.cons rfl (fun K hK => ?_) AllReady.nil
  go_simp
  refine (oL f _ bK).mono ?_; rw [HZ.out]; rintro x w5 ⟨rfl, hb5⟩
  have eT : Below w2.heap.size w2 w5 := ah (ay 1 (Below.refl _ _)) hb5
  have e2 := (eT.cell (p := ⟨b, 226, none⟩) jA).trans d2
  have e3 := (eT.frozen (p := ⟨b, 226, none⟩) jA).trans d3
  refine hK _ _ ?_
  clear hK K
  refine wpAny_take (i := 8) (v := ?_) rfl (by kernel_rfl) (by kernel_rfl) (by kernel_rfl) (fun _ _ _ h => h) (Or.inl ⟨by rfl, ?_⟩) ?_; rotate_left; focus (intro w; go_simp; try with_reducible rfl)
  refine wpAny_take (i := 9) (v := ?_) rfl (by kernel_rfl) (by kernel_rfl) (by kernel_rfl) (fun _ _ _ h => h) (Or.inl ⟨by rfl, ?_⟩) ?_; rotate_left; focus (intro w; go_simp; try with_reducible rfl)
  refine wpAny_take (i := 10) (v := ?_) rfl (by kernel_rfl) (by kernel_rfl) (by kernel_rfl) (fun _ _ _ h => h) (Or.inl ⟨by rfl, ?_⟩) ?_; rotate_left; focus (intro w; go_simp; try with_reducible rfl)
  refine wpAny_ready (rs := [11]) (by kernel_rfl) (by simp) ?_; refine AllReady.cons rfl (fun K hK => ?_) AllReady.nil
  go_simp; refine hK _ _ ?_; clear hK K
  refine wpAny_done (by kernel_rfl) ?_ _
  obtain ⟨dS, mX⟩ := FIN.out _ eT
  generalize w5.setCell ⟨b, 226, none⟩ (.int .i64 (g - z)) = w6 at *
  obtain ⟨s0, s1⟩ := rT hs first n (g - z) k hk
  have v0 := dS.cell s0
  have v1 := dS.cell s1
  have p0 := dS.frozen (k * 2)
  have p1 := dS.frozen (k * 2 + 1)
  have iO := hide dS
  clear s0 s1 dS u0 u1 e2 e3
  go_wp2_with fail
  refine bodyPost_end (v := .tuple #[]) (by simp [results, Tryz.results164, go_sem]) rfl ?_
  have fG := (iO.out.set (k * 2) (.string zF.n)).set (k * 2 + 1) (.string zF.v)
  rw [wG hs _ _ _ k hk zF] at fG
  exact ⟨rfl, by rw [HZ.out, ← HK.out]; exact fG, (mX.setCell _ (.inl ⟨Nat.le_refl _, by simp⟩)).setCell _ (.inl ⟨Nat.le_refl _, by simp⟩)⟩
 ·go_simp; refine hK _ _ ?_; clear hK K
  refine wpAny_ready (rs := [3, 7]) (by kernel_rfl) (by simp) ?_; refine AllReady.cons rfl (fun K hK => ?_) (AllReady.cons rfl (fun K hK => ?_) AllReady.nil)
  ·go_simp; refine hK _ _ ?_; clear hK K
   refine wpAny_ready (rs := [7]) (by kernel_rfl) (by simp) ?_; refine AllReady.cons rfl (fun K hK => ?_) AllReady.nil
   go_simp
   refine (oL f _ bK).mono ?_; rw [HZ.out]; rintro x w5 ⟨rfl, hb5⟩
   have eT : Below w2.heap.size w2 w5 := ah (ay 1 (Below.refl _ _)) hb5
   have e2 := (eT.cell (p := ⟨b, 226, none⟩) jA).trans d2
   have e3 := (eT.frozen (p := ⟨b, 226, none⟩) jA).trans d3
   refine hK _ _ ?_
   clear hK K
   refine wpAny_take (i := 8) (v := ?_) rfl (by kernel_rfl) (by kernel_rfl) (by kernel_rfl) (fun _ _ _ h => h) (Or.inl ⟨by rfl, ?_⟩) ?_; rotate_left; focus (intro w; go_simp; try with_reducible rfl)
   refine wpAny_take (i := 9) (v := ?_) rfl (by kernel_rfl) (by kernel_rfl) (by kernel_rfl) (fun _ _ _ h => h) (Or.inl ⟨by rfl, ?_⟩) ?_; rotate_left; focus (intro w; go_simp; try with_reducible rfl)
   refine wpAny_take (i := 10) (v := ?_) rfl (by kernel_rfl) (by kernel_rfl) (by kernel_rfl) (fun _ _ _ h => h) (Or.inl ⟨by rfl, ?_⟩) ?_; rotate_left; focus (intro w; go_simp; try with_reducible rfl)
   refine wpAny_ready (rs := [11]) (by kernel_rfl) (by simp) ?_; refine AllReady.cons rfl (fun K hK => ?_) AllReady.nil
   go_simp; refine hK _ _ ?_; clear hK K
   refine wpAny_done (by kernel_rfl) ?_ _
   obtain ⟨dS, mX⟩ := FIN.out _ eT
   generalize w5.setCell ⟨b, 226, none⟩ (.int .i64 (g - z)) = w6 at *
   obtain ⟨s0, s1⟩ := rT hs first n (g - z) k hk
   have v0 := dS.cell s0
   have v1 := dS.cell s1
   have p0 := dS.frozen (k * 2)
   have p1 := dS.frozen (k * 2 + 1)
   have iO := hide dS
   clear s0 s1 dS u0 u1 e2 e3
   go_wp2_with fail
   refine bodyPost_end (v := .tuple #[]) (by simp [results, Tryz.results164, go_sem]) rfl ?_
   have fG := (iO.out.set (k * 2) (.string zF.n)).set (k * 2 + 1) (.string zF.v)
   rw [wG hs _ _ _ k hk zF] at fG
   exact ⟨rfl, by rw [HZ.out, ← HK.out]; exact fG, (mX.setCell _ (.inl ⟨Nat.le_refl _, by simp⟩)).setCell _ (.inl ⟨Nat.le_refl _, by simp⟩)⟩
  ·go_simp
   refine (oL f _ bK).mono ?_; rw [HZ.out]; rintro x w5 ⟨rfl, hb5⟩
   have eT : Below w2.heap.size w2 w5 := ah (ay 1 (Below.refl _ _)) hb5
   have e2 := (eT.cell (p := ⟨b, 226, none⟩) jA).trans d2
   have e3 := (eT.frozen (p := ⟨b, 226, none⟩) jA).trans d3
   refine hK _ _ ?_
   clear hK K
   refine wpAny_ready (rs := [3]) (by kernel_rfl) (by simp) ?_; refine AllReady.cons rfl (fun K hK => ?_) AllReady.nil
   go_simp; refine hK _ _ ?_; clear hK K
   refine wpAny_take (i := 8) (v := ?_) rfl (by kernel_rfl) (by kernel_rfl) (by kernel_rfl) (fun _ _ _ h => h) (Or.inl ⟨by rfl, ?_⟩) ?_; rotate_left; focus (intro w; go_simp; try with_reducible rfl)
   refine wpAny_take (i := 9) (v := ?_) rfl (by kernel_rfl) (by kernel_rfl) (by kernel_rfl) (fun _ _ _ h => h) (Or.inl ⟨by rfl, ?_⟩) ?_; rotate_left; focus (intro w; go_simp; try with_reducible rfl)
   refine wpAny_take (i := 10) (v := ?_) rfl (by kernel_rfl) (by kernel_rfl) (by kernel_rfl) (fun _ _ _ h => h) (Or.inl ⟨by rfl, ?_⟩) ?_; rotate_left; focus (intro w; go_simp; try with_reducible rfl)
   refine wpAny_ready (rs := [11]) (by kernel_rfl) (by simp) ?_; refine AllReady.cons rfl (fun K hK => ?_) AllReady.nil
   go_simp; refine hK _ _ ?_; clear hK K
   refine wpAny_done (by kernel_rfl) ?_ _
   obtain ⟨dS, mX⟩ := FIN.out _ eT
   generalize w5.setCell ⟨b, 226, none⟩ (.int .i64 (g - z)) = w6 at *
   obtain ⟨s0, s1⟩ := rT hs first n (g - z) k hk
   have v0 := dS.cell s0
   have v1 := dS.cell s1
   have p0 := dS.frozen (k * 2)
   have p1 := dS.frozen (k * 2 + 1)
   have iO := hide dS
   clear s0 s1 dS u0 u1 e2 e3
   go_wp2_with fail
   refine bodyPost_end (v := .tuple #[]) (by simp [results, Tryz.results164, go_sem]) rfl ?_
   have fG := (iO.out.set (k * 2) (.string zF.n)).set (k * 2 + 1) (.string zF.v)
   rw [wG hs _ _ _ k hk zF] at fG
   exact ⟨rfl, by rw [HZ.out, ← HK.out]; exact fG, (mX.setCell _ (.inl ⟨Nat.le_refl _, by simp⟩)).setCell _ (.inl ⟨Nat.le_refl _, by simp⟩)⟩
set_option maxHeartbeats 4000000 in
theorem Zc (b first n : Nat) (sl : List Fd) (g : Int) (f : Fd) (w : World) (hs : sl.length = 112) (hr : aj w b 172 (rC sl first n g)) (hf : first < 112) (hn : n ≤ 111) (bK : f.fine) (hg0 : 0 ≤ g) (hg1 : g ≤ 1000000) :
  Calls Tryz.prog 153 #[.pointer (some ⟨b, 0, none⟩), .agg #[.string f.n, .string f.v]] w fun x w' => x = .returned (.tuple #[]) ∧ aj w' b 172 (rC (sl.set ((first + 111) % 112) f) (((first + 111) % 112 : Nat) : Int) ((n + 1 : Nat) : Int) (g + wt f)) ∧ Turn b (b + 1) w w' := by
 have hbw := hr.lt
 obtain ⟨k, hkk⟩ : ∃ k, k = (first + 111) % 112 := ⟨_, rfl⟩
 rw [← hkk]
 have hk : k < 112 := by omega
 have hki : ((first : Int) + 112 - 1) % 112 = k := by omega
 have HK := hide hkk
 go_enter Tryz.func153, Tryz.ntmps153
 have HR := hide hr
 clear hr hkk
 have c0 := HR.out.cell (ku hs first n g).1
 have c1 := HR.out.cell (ku hs first n g).2.1
 have q0 := HR.out.frozen 224
 have q1 := HR.out.frozen 225
 have hbne : ¬ b = w.heap.size := by omega
 go_wp2_with fail
 have hr4 := (HR.out.set 224 (.int .i64 k)).set 225 (.int .i64 ((n : Int) + 1))
 rw [U6 hs, Gn hs] at hr4
 replace hr4 := hr4.alloc (.cells #[.string f.n, .string f.v] 104)
 have gZ := (((Turn.refl b (b + 1) w).setCell (p := ⟨b, 224, none⟩) (.int .i64 k) (.inl ⟨Nat.le_refl _, Nat.lt_succ_self _⟩)).setCell (p := ⟨b, 225, none⟩) (.int .i64 ((n : Int) + 1)) (.inl ⟨Nat.le_refl _, Nat.lt_succ_self _⟩)).alloc (.cells #[.string f.n, .string f.v] 104)
 have sZ : w.heap.size < (((w.setCell ⟨b, 224, none⟩ (.int .i64 k)).setCell ⟨b, 225, none⟩ (.int .i64 ((n : Int) + 1))).alloc (.cells #[.string f.n, .string f.v] 104)).heap.size := by simp
 have y0 : (((w.setCell ⟨b, 224, none⟩ (.int .i64 k)).setCell ⟨b, 225, none⟩ (.int .i64 ((n : Int) + 1))).alloc (.cells #[.string f.n, .string f.v] 104)).cell? ⟨w.heap.size, 0, none⟩ = some (.string f.n) := Iz _ _ (by simp) _ _ _
 have y1 : (((w.setCell ⟨b, 224, none⟩ (.int .i64 k)).setCell ⟨b, 225, none⟩ (.int .i64 ((n : Int) + 1))).alloc (.cells #[.string f.n, .string f.v] 104)).cell? ⟨w.heap.size, 1, none⟩ = some (.string f.v) := IB _ _ (by simp) _ _ _
 generalize ((w.setCell ⟨b, 224, none⟩ (.int .i64 k)).setCell ⟨b, 225, none⟩ (.int .i64 ((n : Int) + 1))).alloc (.cells #[.string f.n, .string f.v] 104) = w4 at *
 have d2 := hr4.cell (ku hs k ((n : Int) + 1) g).2.2
 have d3 := hr4.frozen 226
 have jA := hr4.lt
 have zX := zY f
 obtain ⟨z, hz⟩ : ∃ z, wt f = z := ⟨_, rfl⟩
 rw [hz] at zX
 have fin : ∀ w5, Below w4.heap.size w4 w5 → aj (w5.setCell ⟨b, 226, none⟩ (.int .i64 (g + z))) b 172 (rC sl k ((n + 1 : Nat) : Int) (g + z)) ∧ Turn b (b + 1) w (w5.setCell ⟨b, 226, none⟩ (.int .i64 (g + z))) ∧ Turn b (b + 1) w4 (w5.setCell ⟨b, 226, none⟩ (.int .i64 (g + z))) := fun w5 h5 => by
  have oK := (hr4.new h5).set 226 (.int .i64 (g + z))
  rw [Gp hs] at oK
  exact ⟨oK, (gZ.trans (iL h5 b (b + 1))).setCell _ (.inl ⟨Nat.le_refl _, by simp⟩), (iL h5 b (b + 1)).setCell _ (.inl ⟨Nat.le_refl _, by simp⟩)⟩
 have FIN := hide fin
 have HZ := hide hz
 clear hz fin c0 c1 q0 q1 gZ hr4 HR
 have rU : IntKind.i64.wrap (g + z) = g + z := by rw [IntKind.wrap_i64]; omega
 refine wp_region_any (by kernel_rfl) ?_; change wpAny _ _ _ _ _ _ _ (World.drew _)
 refine wpAny_take (i := 0) (v := ?_) rfl (by kernel_rfl) (by kernel_rfl) (by kernel_rfl) (fun _ _ _ h => h) (Or.inl ⟨by rfl, ?_⟩) ?_; rotate_left; focus (intro w; go_simp; try with_reducible rfl)
 refine wpAny_take (i := 1) (v := ?_) rfl (by kernel_rfl) (by kernel_rfl) (by kernel_rfl) (fun _ _ _ h => h) (Or.inl ⟨by rfl, ?_⟩) ?_; rotate_left; focus (intro w; go_simp; try with_reducible rfl)
 refine wpAny_take (i := 2) (v := ?_) rfl (by kernel_rfl) (by kernel_rfl) (by kernel_rfl) (fun _ _ _ h => h) (Or.inl ⟨by rfl, ?_⟩) ?_; rotate_left; focus (intro w; go_simp; try with_reducible rfl)
 refine wpAny_ready (rs := [3, 4]) (by kernel_rfl) (by simp) ?_; refine AllReady.cons rfl (fun K hK => ?_) (AllReady.cons rfl (fun K hK => ?_) AllReady.nil)
 ·go_simp; refine hK _ _ ?_; clear hK K
  refine wpAny_ready (rs := [4]) (by kernel_rfl) (by simp) ?_; refine AllReady.cons rfl (fun K hK => ?_) AllReady.nil
  go_simp; refine hK _ _ ?_; clear hK K
  refine wpAny_ready (rs := [5]) (by kernel_rfl) (by simp) ?_; refine AllReady.cons rfl (fun K hK => ?_) AllReady.nil
  go_simp
  refine (oL f _ bK).mono ?_; rw [HZ.out]; rintro x w5 ⟨rfl, hb5⟩
  have eT : Below w4.heap.size w4 w5 := ah (ay 1 (Below.refl _ _)) hb5
  have e2 := (eT.cell (p := ⟨b, 226, none⟩) jA).trans d2
  have e3 := (eT.frozen (p := ⟨b, 226, none⟩) jA).trans d3
  refine hK _ _ ?_
  clear hK K
  refine wpAny_take (i := 6) (v := ?_) rfl (by kernel_rfl) (by kernel_rfl) (by kernel_rfl) (fun _ _ _ h => h) (Or.inl ⟨by rfl, ?_⟩) ?_; rotate_left; focus (intro w; go_simp; try with_reducible rfl)
  refine wpAny_take (i := 7) (v := ?_) rfl (by kernel_rfl) (by kernel_rfl) (by kernel_rfl) (fun _ _ _ h => h) (Or.inl ⟨by rfl, ?_⟩) ?_; rotate_left; focus (intro w; go_simp; try with_reducible rfl)
  refine wpAny_take (i := 8) (v := ?_) rfl (by kernel_rfl) (by kernel_rfl) (by kernel_rfl) (fun _ _ _ h => h) (Or.inl ⟨by rfl, ?_⟩) ?_; rotate_left; focus (intro w; go_simp; try with_reducible rfl)
  refine wpAny_ready (rs := [9]) (by kernel_rfl) (by simp) ?_; refine AllReady.cons rfl (fun K hK => ?_) AllReady.nil
  go_simp; refine hK _ _ ?_; clear hK K
  refine wpAny_done (by kernel_rfl) ?_ _
  obtain ⟨dS, mX, jC⟩ := FIN.out _ eT
  generalize w5.setCell ⟨b, 226, none⟩ (.int .i64 (g + z)) = w6 at *
  have i0 := (jC.cell w.heap.size 0 sZ (by omega)).trans y0
  have i1 := (jC.cell w.heap.size 1 sZ (by omega)).trans y1
  have uS : w.heap.size < w6.heap.size := Nat.lt_of_lt_of_le sZ jC.size
  have hb6 := dS.lt
  have c6 := dS.cell (ku hs k ((n + 1 : Nat) : Int) (g + z)).1
  have iO := hide dS
  have uT := hide mX
  clear dS e2 e3 mX jC y0 y1 d2 d3
  have hS0 := And.intro c6 (And.intro i0 i1)
  go_wp2_with fail
  refine wp_region_held_drew (S := (S3 b 224 (.int .i64 k) w.heap.size (.string f.n) (.string f.v))) (by kernel_rfl) hS0 (fun hS => ?_)
  clear hS0
  refine wpAnyH_take (i := 0) (v := ?_) rfl (by kernel_rfl) (by kernel_rfl) (by kernel_rfl) (fun _ _ _ h => h) (Or.inl ⟨by rfl, ?_⟩) hS ?_; rotate_left; focus (intro w hw; clear hw; go_simp; try with_reducible rfl)
  refine wpAnyH_take (i := 2) (v := ?_) rfl (by kernel_rfl) (by kernel_rfl) (by kernel_rfl) (fun _ _ _ h => h) (Or.inl ⟨by rfl, ?_⟩) hS ?_; rotate_left; focus (intro w hw; obtain ⟨l0, l1, l2⟩ := hw; go_simp; try with_reducible rfl)
  refine wpAnyH_ready (rs := [1]) (by kernel_rfl) (by simp) ?_; refine AllReadyH.cons rfl (fun K hK => ?_) AllReadyH.nil; go_simp
  refine (wF b k 0 sl _ _ _ hs (iO.out.new (ay 1 (Below.refl _ _))) hk (by omega)).mono ?_; rw [show (k + 0) % 112 = k by omega]; rintro x w7 ⟨rfl, dK⟩
  have jE : Below w6.heap.size w6 w7 := ah (ay 1 (Below.refl _ _)) dK
  have fG := iO.out.new jE
  have j0 := (jE.cell (p := ⟨w.heap.size, 0, none⟩) uS).trans i0
  have j1 := (jE.cell (p := ⟨w.heap.size, 1, none⟩) uS).trans i1
  have c7 := (jE.cell (p := ⟨b, 224, none⟩) hb6).trans c6
  refine hK.out _ _ ⟨c7, j0, j1⟩ (fun hS => ?_)
  obtain ⟨s0, s1⟩ := rT hs k ((n + 1 : Nat) : Int) (g + z) k hk
  have v0 := fG.cell s0
  have v1 := fG.cell s1
  have p0 := fG.frozen (k * 2)
  have p1 := fG.frozen (k * 2 + 1)
  have oh := hide fG
  have Bq := hide (uT.out.trans (iL jE b (b + 1)))
  clear hK K c6 i0 i1 dK jE fG s0 s1 iO uT
  refine wpAnyH_take (i := 3) (v := ?_) rfl (by kernel_rfl) (by kernel_rfl) (by kernel_rfl) (fun _ _ _ h => h) (Or.inl ⟨by rfl, ?_⟩) hS ?_; rotate_left; focus (intro w hw; clear hw; go_simp; try with_reducible rfl)
  refine wpAnyH_ready (rs := [4]) (by kernel_rfl) (by simp) ?_; refine AllReadyH.cons rfl (fun K hK => ?_) AllReadyH.nil; go_simp
  have mY := (oh.out.set (k * 2) (.string f.n)).set (k * 2 + 1) (.string f.v)
  rw [wG hs _ _ _ k hk f] at mY
  have nP := (Bq.out.setCell (p := ⟨b, k * 2, none⟩) (.string f.n) (.inl ⟨Nat.le_refl _, by simp⟩)).setCell (p := ⟨b, k * 2 + 1, none⟩) (.string f.v) (.inl ⟨Nat.le_refl _, by simp⟩)
  have hne : ¬ b = w.heap.size := by omega
  have uU : S3 b 224 (.int .i64 k) w.heap.size (.string f.n) (.string f.v) ((w7.setCell ⟨b, k * 2, none⟩ (.string f.n)).setCell ⟨b, k * 2 + 1, none⟩ (.string f.v)) :=
   ⟨mY.cell (ku (by simp [hs]) k _ _).1, (World.cell?_setCell_other _ _ _ _ (by simp [hne])).trans ((World.cell?_setCell_other _ _ _ _ (by simp [hne])).trans j0), (World.cell?_setCell_other _ _ _ _ (by simp [hne])).trans ((World.cell?_setCell_other _ _ _ _ (by simp [hne])).trans j1)⟩
  refine hK.out _ _ uU (fun _ => ?_)
  clear hK K
  refine wpAnyH_done (by kernel_rfl) ?_ _
  have Br := hide mY
  clear mY uU hS v0 v1 p0 p1
  go_wp2_with fail
  refine bodyPost_end (v := .tuple #[]) (by simp [results, Tryz.results153, go_sem]) rfl ?_
  exact ⟨rfl, by rw [HZ.out]; exact Br.out, nP⟩
 ·go_simp; refine hK _ _ ?_; clear hK K
  refine wpAny_ready (rs := [3, 5]) (by kernel_rfl) (by simp) ?_; refine AllReady.cons rfl (fun K hK => ?_) (AllReady.cons rfl (fun K hK => ?_) AllReady.nil)
  ·go_simp; refine hK _ _ ?_; clear hK K
   refine wpAny_ready (rs := [5]) (by kernel_rfl) (by simp) ?_; refine AllReady.cons rfl (fun K hK => ?_) AllReady.nil
   go_simp
   refine (oL f _ bK).mono ?_; rw [HZ.out]; rintro x w5 ⟨rfl, hb5⟩
   have eT : Below w4.heap.size w4 w5 := ah (ay 1 (Below.refl _ _)) hb5
   have e2 := (eT.cell (p := ⟨b, 226, none⟩) jA).trans d2
   have e3 := (eT.frozen (p := ⟨b, 226, none⟩) jA).trans d3
   refine hK _ _ ?_
   clear hK K
   refine wpAny_take (i := 6) (v := ?_) rfl (by kernel_rfl) (by kernel_rfl) (by kernel_rfl) (fun _ _ _ h => h) (Or.inl ⟨by rfl, ?_⟩) ?_; rotate_left; focus (intro w; go_simp; try with_reducible rfl)
   refine wpAny_take (i := 7) (v := ?_) rfl (by kernel_rfl) (by kernel_rfl) (by kernel_rfl) (fun _ _ _ h => h) (Or.inl ⟨by rfl, ?_⟩) ?_; rotate_left; focus (intro w; go_simp; try with_reducible rfl)
   refine wpAny_take (i := 8) (v := ?_) rfl (by kernel_rfl) (by kernel_rfl) (by kernel_rfl) (fun _ _ _ h => h) (Or.inl ⟨by rfl, ?_⟩) ?_; rotate_left; focus (intro w; go_simp; try with_reducible rfl)
   refine wpAny_ready (rs := [9]) (by kernel_rfl) (by simp) ?_; refine AllReady.cons rfl (fun K hK => ?_) AllReady.nil
   go_simp; refine hK _ _ ?_; clear hK K
   refine wpAny_done (by kernel_rfl) ?_ _
   obtain ⟨dS, mX, jC⟩ := FIN.out _ eT
   generalize w5.setCell ⟨b, 226, none⟩ (.int .i64 (g + z)) = w6 at *
   have i0 := (jC.cell w.heap.size 0 sZ (by omega)).trans y0
   have i1 := (jC.cell w.heap.size 1 sZ (by omega)).trans y1
   have uS : w.heap.size < w6.heap.size := Nat.lt_of_lt_of_le sZ jC.size
   have hb6 := dS.lt
   have c6 := dS.cell (ku hs k ((n + 1 : Nat) : Int) (g + z)).1
   have iO := hide dS
   have uT := hide mX
   clear dS e2 e3 mX jC y0 y1 d2 d3
   have hS0 := And.intro c6 (And.intro i0 i1)
   go_wp2_with fail
   refine wp_region_held_drew (S := (S3 b 224 (.int .i64 k) w.heap.size (.string f.n) (.string f.v))) (by kernel_rfl) hS0 (fun hS => ?_)
   clear hS0
   refine wpAnyH_take (i := 0) (v := ?_) rfl (by kernel_rfl) (by kernel_rfl) (by kernel_rfl) (fun _ _ _ h => h) (Or.inl ⟨by rfl, ?_⟩) hS ?_; rotate_left; focus (intro w hw; clear hw; go_simp; try with_reducible rfl)
   refine wpAnyH_take (i := 2) (v := ?_) rfl (by kernel_rfl) (by kernel_rfl) (by kernel_rfl) (fun _ _ _ h => h) (Or.inl ⟨by rfl, ?_⟩) hS ?_; rotate_left; focus (intro w hw; obtain ⟨l0, l1, l2⟩ := hw; go_simp; try with_reducible rfl)
   refine wpAnyH_ready (rs := [1]) (by kernel_rfl) (by simp) ?_; refine AllReadyH.cons rfl (fun K hK => ?_) AllReadyH.nil; go_simp
   refine (wF b k 0 sl _ _ _ hs (iO.out.new (ay 1 (Below.refl _ _))) hk (by omega)).mono ?_; rw [show (k + 0) % 112 = k by omega]; rintro x w7 ⟨rfl, dK⟩
   have jE : Below w6.heap.size w6 w7 := ah (ay 1 (Below.refl _ _)) dK
   have fG := iO.out.new jE
   have j0 := (jE.cell (p := ⟨w.heap.size, 0, none⟩) uS).trans i0
   have j1 := (jE.cell (p := ⟨w.heap.size, 1, none⟩) uS).trans i1
   have c7 := (jE.cell (p := ⟨b, 224, none⟩) hb6).trans c6
   refine hK.out _ _ ⟨c7, j0, j1⟩ (fun hS => ?_)
   obtain ⟨s0, s1⟩ := rT hs k ((n + 1 : Nat) : Int) (g + z) k hk
   have v0 := fG.cell s0
   have v1 := fG.cell s1
   have p0 := fG.frozen (k * 2)
   have p1 := fG.frozen (k * 2 + 1)
   have oh := hide fG
   have Bq := hide (uT.out.trans (iL jE b (b + 1)))
   clear hK K c6 i0 i1 dK jE fG s0 s1 iO uT
   refine wpAnyH_take (i := 3) (v := ?_) rfl (by kernel_rfl) (by kernel_rfl) (by kernel_rfl) (fun _ _ _ h => h) (Or.inl ⟨by rfl, ?_⟩) hS ?_; rotate_left; focus (intro w hw; clear hw; go_simp; try with_reducible rfl)
   refine wpAnyH_ready (rs := [4]) (by kernel_rfl) (by simp) ?_; refine AllReadyH.cons rfl (fun K hK => ?_) AllReadyH.nil; go_simp
   have mY := (oh.out.set (k * 2) (.string f.n)).set (k * 2 + 1) (.string f.v)
   rw [wG hs _ _ _ k hk f] at mY
   have nP := (Bq.out.setCell (p := ⟨b, k * 2, none⟩) (.string f.n) (.inl ⟨Nat.le_refl _, by simp⟩)).setCell (p := ⟨b, k * 2 + 1, none⟩) (.string f.v) (.inl ⟨Nat.le_refl _, by simp⟩)
   have hne : ¬ b = w.heap.size := by omega
   have uU : S3 b 224 (.int .i64 k) w.heap.size (.string f.n) (.string f.v) ((w7.setCell ⟨b, k * 2, none⟩ (.string f.n)).setCell ⟨b, k * 2 + 1, none⟩ (.string f.v)) :=
    ⟨mY.cell (ku (by simp [hs]) k _ _).1, (World.cell?_setCell_other _ _ _ _ (by simp [hne])).trans ((World.cell?_setCell_other _ _ _ _ (by simp [hne])).trans j0), (World.cell?_setCell_other _ _ _ _ (by simp [hne])).trans ((World.cell?_setCell_other _ _ _ _ (by simp [hne])).trans j1)⟩
   refine hK.out _ _ uU (fun _ => ?_)
   clear hK K
   refine wpAnyH_done (by kernel_rfl) ?_ _
   have Br := hide mY
   clear mY uU hS v0 v1 p0 p1
   go_wp2_with fail
   refine bodyPost_end (v := .tuple #[]) (by simp [results, Tryz.results153, go_sem]) rfl ?_
   exact ⟨rfl, by rw [HZ.out]; exact Br.out, nP⟩
  ·go_simp
   refine (oL f _ bK).mono ?_; rw [HZ.out]; rintro x w5 ⟨rfl, hb5⟩
   have eT : Below w4.heap.size w4 w5 := ah (ay 1 (Below.refl _ _)) hb5
   have e2 := (eT.cell (p := ⟨b, 226, none⟩) jA).trans d2
   have e3 := (eT.frozen (p := ⟨b, 226, none⟩) jA).trans d3
   refine hK _ _ ?_
   clear hK K
   refine wpAny_ready (rs := [3]) (by kernel_rfl) (by simp) ?_; refine AllReady.cons rfl (fun K hK => ?_) AllReady.nil
   go_simp; refine hK _ _ ?_; clear hK K
   refine wpAny_take (i := 6) (v := ?_) rfl (by kernel_rfl) (by kernel_rfl) (by kernel_rfl) (fun _ _ _ h => h) (Or.inl ⟨by rfl, ?_⟩) ?_; rotate_left; focus (intro w; go_simp; try with_reducible rfl)
   refine wpAny_take (i := 7) (v := ?_) rfl (by kernel_rfl) (by kernel_rfl) (by kernel_rfl) (fun _ _ _ h => h) (Or.inl ⟨by rfl, ?_⟩) ?_; rotate_left; focus (intro w; go_simp; try with_reducible rfl)
   refine wpAny_take (i := 8) (v := ?_) rfl (by kernel_rfl) (by kernel_rfl) (by kernel_rfl) (fun _ _ _ h => h) (Or.inl ⟨by rfl, ?_⟩) ?_; rotate_left; focus (intro w; go_simp; try with_reducible rfl)
   refine wpAny_ready (rs := [9]) (by kernel_rfl) (by simp) ?_; refine AllReady.cons rfl (fun K hK => ?_) AllReady.nil
   go_simp; refine hK _ _ ?_; clear hK K
   refine wpAny_done (by kernel_rfl) ?_ _
   obtain ⟨dS, mX, jC⟩ := FIN.out _ eT
   generalize w5.setCell ⟨b, 226, none⟩ (.int .i64 (g + z)) = w6 at *
   have i0 := (jC.cell w.heap.size 0 sZ (by omega)).trans y0
   have i1 := (jC.cell w.heap.size 1 sZ (by omega)).trans y1
   have uS : w.heap.size < w6.heap.size := Nat.lt_of_lt_of_le sZ jC.size
   have hb6 := dS.lt
   have c6 := dS.cell (ku hs k ((n + 1 : Nat) : Int) (g + z)).1
   have iO := hide dS
   have uT := hide mX
   clear dS e2 e3 mX jC y0 y1 d2 d3
   have hS0 := And.intro c6 (And.intro i0 i1)
   go_wp2_with fail
   refine wp_region_held_drew (S := (S3 b 224 (.int .i64 k) w.heap.size (.string f.n) (.string f.v))) (by kernel_rfl) hS0 (fun hS => ?_)
   clear hS0
   refine wpAnyH_take (i := 0) (v := ?_) rfl (by kernel_rfl) (by kernel_rfl) (by kernel_rfl) (fun _ _ _ h => h) (Or.inl ⟨by rfl, ?_⟩) hS ?_; rotate_left; focus (intro w hw; clear hw; go_simp; try with_reducible rfl)
   refine wpAnyH_take (i := 2) (v := ?_) rfl (by kernel_rfl) (by kernel_rfl) (by kernel_rfl) (fun _ _ _ h => h) (Or.inl ⟨by rfl, ?_⟩) hS ?_; rotate_left; focus (intro w hw; obtain ⟨l0, l1, l2⟩ := hw; go_simp; try with_reducible rfl)
   refine wpAnyH_ready (rs := [1]) (by kernel_rfl) (by simp) ?_; refine AllReadyH.cons rfl (fun K hK => ?_) AllReadyH.nil; go_simp
   refine (wF b k 0 sl _ _ _ hs (iO.out.new (ay 1 (Below.refl _ _))) hk (by omega)).mono ?_; rw [show (k + 0) % 112 = k by omega]; rintro x w7 ⟨rfl, dK⟩
   have jE : Below w6.heap.size w6 w7 := ah (ay 1 (Below.refl _ _)) dK
   have fG := iO.out.new jE
   have j0 := (jE.cell (p := ⟨w.heap.size, 0, none⟩) uS).trans i0
   have j1 := (jE.cell (p := ⟨w.heap.size, 1, none⟩) uS).trans i1
   have c7 := (jE.cell (p := ⟨b, 224, none⟩) hb6).trans c6
   refine hK.out _ _ ⟨c7, j0, j1⟩ (fun hS => ?_)
   obtain ⟨s0, s1⟩ := rT hs k ((n + 1 : Nat) : Int) (g + z) k hk
   have v0 := fG.cell s0
   have v1 := fG.cell s1
   have p0 := fG.frozen (k * 2)
   have p1 := fG.frozen (k * 2 + 1)
   have oh := hide fG
   have Bq := hide (uT.out.trans (iL jE b (b + 1)))
   clear hK K c6 i0 i1 dK jE fG s0 s1 iO uT
   refine wpAnyH_take (i := 3) (v := ?_) rfl (by kernel_rfl) (by kernel_rfl) (by kernel_rfl) (fun _ _ _ h => h) (Or.inl ⟨by rfl, ?_⟩) hS ?_; rotate_left; focus (intro w hw; clear hw; go_simp; try with_reducible rfl)
   refine wpAnyH_ready (rs := [4]) (by kernel_rfl) (by simp) ?_; refine AllReadyH.cons rfl (fun K hK => ?_) AllReadyH.nil; go_simp
   have mY := (oh.out.set (k * 2) (.string f.n)).set (k * 2 + 1) (.string f.v)
   rw [wG hs _ _ _ k hk f] at mY
   have nP := (Bq.out.setCell (p := ⟨b, k * 2, none⟩) (.string f.n) (.inl ⟨Nat.le_refl _, by simp⟩)).setCell (p := ⟨b, k * 2 + 1, none⟩) (.string f.v) (.inl ⟨Nat.le_refl _, by simp⟩)
   have hne : ¬ b = w.heap.size := by omega
   have uU : S3 b 224 (.int .i64 k) w.heap.size (.string f.n) (.string f.v) ((w7.setCell ⟨b, k * 2, none⟩ (.string f.n)).setCell ⟨b, k * 2 + 1, none⟩ (.string f.v)) :=
    ⟨mY.cell (ku (by simp [hs]) k _ _).1, (World.cell?_setCell_other _ _ _ _ (by simp [hne])).trans ((World.cell?_setCell_other _ _ _ _ (by simp [hne])).trans j0), (World.cell?_setCell_other _ _ _ _ (by simp [hne])).trans ((World.cell?_setCell_other _ _ _ _ (by simp [hne])).trans j1)⟩
   refine hK.out _ _ uU (fun _ => ?_)
   clear hK K
   refine wpAnyH_done (by kernel_rfl) ?_ _
   have Br := hide mY
   clear mY uU hS v0 v1 p0 p1
   go_wp2_with fail
   refine bodyPost_end (v := .tuple #[]) (by simp [results, Tryz.results153, go_sem]) rfl ?_
   exact ⟨rfl, by rw [HZ.out]; exact Br.out, nP⟩
end Go.Proofs.YtlpbnkideaojeaaGreatDoor
