/- The model's Note: the rows behind it are new. -/
import Derived.Test.YtejmnkabmajebaaQG8
namespace Go.Proofs.Ytejmnkabmajebaa
open Go.RowKit
set_option maxRecDepth 100000
set_option linter.unusedSimpArgs false
set_option linter.unusedVariables false

set_option maxHeartbeats 4000000 in
theorem note2 (g base base0 : Nat) (room : Int) (L : List Fd) (f : Fd) (w : World) (h : TabAt w g base0 room L) (hok : ∀ f ∈ L, okF f = true) (hf : okF f = true) (hroom : 0 ≤ room) (hL : L.length ≤ 190) (hbs : base ≤ w.heap.size) :
    Calls Try.prog 56 #[.pointer (some ⟨g, 0, none⟩), .agg #[.string f.n, .string f.v]] w fun x w' => x = .returned (.tuple #[]) ∧ TabAt w' g base room (shr room (f :: L)) ∧ Turn g (g + 1) w w' := by
  obtain ⟨ad, cap, hrow, hown, _⟩ := h.ex
  have HALL : Hid (∀ u ∈ f :: L, okF u = true) := fun u hu => by rcases List.mem_cons.1 hu with rfl | hu; exact hf; exact hok u hu
  obtain ⟨R, hR⟩ : ∃ R, R = shr room (f :: L) := ⟨_, rfl⟩
  have hgl := hrow.lt
  have HROW0 := hide hrow; have HOWN0 := hide hown
  clear h hrow hown hok
  go_enter Try.func56, Try.ntmps56
  go_wp2_with fail
  generalize hV : w.alloc (.cells #[.string f.n, .string f.v] 46) = V
  have hbV : Below w.heap.size w V := by rw [← hV]; exact (Below.refl _ _).alloc (Nat.le_refl _) _
  have x0 : V.cell? ⟨w.heap.size, 0, none⟩ = some (.string f.n) := by rw [← hV]; simp
  have x1 : V.cell? ⟨w.heap.size, 1, none⟩ = some (.string f.v) := by rw [← hV]; simp
  have hlV : w.heap.size < V.heap.size := by rw [← hV]; simp
  clear hV
  have HROW := hide (HROW0.out.new hbV)
  have HOWN := hide (owns_new HOWN0.out hbV)
  have y1 := HROW.out.cell (j := 1) rfl
  have hglV : g < V.heap.size := Nat.lt_of_lt_of_le hgl hbV.size
  have hbA : Below V.heap.size V ((World.drew V).alloc (.cells #[.string f.n, .string f.v] 46)) := bo_alloc (bo_drewN 1 (Below.refl _ _)) _
  have hoA := owns_two (World.drew V) 46 f
  have hrA := (reads_of_owns HOWN.out).new hbA
  refine wp_region_any (by kernel_rfl) ?_; change wpAny _ _ _ _ _ _ _ (World.drew _)
  refine wpAny_take (i := 0) (v := ?_) rfl (by kernel_rfl) (by kernel_rfl) (by kernel_rfl) (fun _ _ _ h => h) (Or.inl ⟨by rfl, ?_⟩) ?_; rotate_left; focus (intro w; go_simp; try with_reducible rfl)
  refine wpAny_take (i := 3) (v := ?_) rfl (by kernel_rfl) (by kernel_rfl) (by kernel_rfl) (fun _ _ _ h => h) (Or.inl ⟨by rfl, ?_⟩) ?_; rotate_left; focus (intro w; go_simp; try with_reducible rfl)
  refine wpAny_take (i := 4) (v := ?_) rfl (by kernel_rfl) (by kernel_rfl) (by kernel_rfl) (fun _ _ _ h => h) (Or.inl ⟨by rfl, ?_⟩) ?_; rotate_left; focus (intro w; go_simp; try with_reducible rfl)
  refine wpAny_take (i := 5) (v := ?_) rfl (by kernel_rfl) (by kernel_rfl) (by kernel_rfl) (fun _ _ _ h => h) (Or.inl ⟨by rfl, ?_⟩) ?_; rotate_left; focus (intro w; go_simp; try with_reducible rfl)
  refine wpAny_ready (rs := [1, 6]) (by kernel_rfl) (by simp) ?_; refine AllReady.cons rfl (fun K hK => ?_) (AllReady.cons rfl (fun K hK => ?_) AllReady.nil)
  · go_simp; refine hK _ _ ?_; clear hK K
    refine wpAny_ready (rs := [2, 6]) (by kernel_rfl) (by simp) ?_; refine AllReady.cons rfl (fun K hK => ?_) (AllReady.cons rfl (fun K hK => ?_) AllReady.nil)
    · go_simp; refine hK _ _ ?_; clear hK K
      refine wpAny_ready (rs := [6]) (by kernel_rfl) (by simp) ?_; refine AllReady.cons rfl (fun K hK => ?_) AllReady.nil
      go_simp; refine hK _ _ ?_; clear hK K
      refine wpAny_ready (rs := [7]) (by kernel_rfl) (by simp) ?_; refine AllReady.cons rfl (fun K hK => ?_) AllReady.nil
      refine step_app _ (by rfl) _ _ 24 (by rfl) 46 (.agg #[.string ⟨#[]⟩, .string ⟨#[]⟩]) 2 32 Try.underlying24 (by kernel_rfl) rfl (by decide) V.heap.size _ 1 (fv [f]) (by rfl) hoA _ L.length (fv L) (by rfl) hrA (fv_one _) (by omega) (by decide) hbA.size ?_
      intro ad5 cap5 w5 hown5 hgrow5 hat5
      have hb5 : Below V.heap.size V w5 := ⟨hgrow5.os.trans hbA.os, hgrow5.tape.trans hbA.tape, hgrow5.output.trans hbA.output, Nat.le_trans hbA.size hgrow5.size, fun k hk => (hgrow5.block k (Nat.lt_of_lt_of_le hk hbA.size) (fun e => absurd (show V.heap.size ≤ k from (hoA.lt k e.symm).1) (Nat.not_le_of_lt hk))).trans (hbA.block k hk)⟩
      refine hK _ _ ?_
      clear hK K hat5 hgrow5
      have hrow5 := HROW.out.new hb5
      have g0 := hrow5.cell (j := 1) rfl
      have g1 := hrow5.frozen 1
      have HROW5 := hide hrow5; have HOWN5 := hide hown5
      clear hrow5 hown5 x0 x1 y1
      refine wpAny_take (i := 8) (v := ?_) rfl (by kernel_rfl) (by kernel_rfl) (by kernel_rfl) (fun _ _ _ h => h) (Or.inl ⟨by rfl, ?_⟩) ?_; rotate_left; focus (intro w; go_simp; try with_reducible rfl)
      refine wpAny_take (i := 9) (v := ?_) rfl (by kernel_rfl) (by kernel_rfl) (by kernel_rfl) (fun _ _ _ h => h) (Or.inl ⟨by rfl, ?_⟩) ?_; rotate_left; focus (intro w; go_simp; try with_reducible rfl)
      refine wpAny_ready (rs := [10]) (by kernel_rfl) (by simp) ?_; refine AllReady.cons rfl (fun K hK => ?_) AllReady.nil
      go_simp; refine hK _ _ ?_; clear hK K
      refine wpAny_done (by kernel_rfl) ?_ _
      have hta : TabAt (w5.setCell ⟨g, 1, none⟩ (.slice ad5 (1 + L.length) cap5)) g base room (f :: L) := by
        have e1 : (f :: L).length = 1 + L.length := by simp; omega
        refine ⟨⟨ad5, cap5, by rw [e1]; exact HROW5.out.set 1 _, ?_, ?_⟩⟩
        · rw [e1, show fv (f :: L) = fv [f] ++ fv L from fv_app [f] L]
          exact owns_base (owns_apart HOWN5.out ⟨g, 1, none⟩ _ (fun hq => by have := (HOWN5.out.lt g hq).1; have := hbV.size; omega)) (fun q hq => by have := (HOWN5.out.lt q hq).1; have := hbV.size; omega)
        · rw [e1]; exact fun hq => by have := (HOWN5.out.lt g hq).1; have := hbV.size; omega
      have ht5 : Turn g (g + 1) w (w5.setCell ⟨g, 1, none⟩ (.slice ad5 (1 + L.length) cap5)) := ((turn_new hbV g (g + 1)).trans (turn_new hb5 g (g + 1))).setCell (p := ⟨g, 1, none⟩) _ (.inl ⟨Nat.le_refl _, Nat.lt_succ_self _⟩)
      have HTA := hide hta; have HT5 := hide ht5
      clear hta ht5
      generalize w5.setCell ⟨g, 1, none⟩ (.slice ad5 (1 + L.length) cap5) = w6 at *
      go_wp2_with fail
      refine (shrink1 g base room (f :: L) _ HTA.out HALL.out hroom (by simp only [List.length_cons]; omega)).mono ?_; rintro x w7 ⟨rfl, hta7, ht7⟩
      have HTA7 := hide hta7
      clear hta7
      go_wp2_with fail
      refine bodyPost_end (v := .tuple #[]) (by simp [results, Try.results56, go_sem]) rfl ?_
      exact ⟨rfl, HTA7.out, HT5.out.trans ht7⟩
    · go_simp; refine hK _ _ ?_; clear hK K
      refine wpAny_ready (rs := [2]) (by kernel_rfl) (by simp) ?_; refine AllReady.cons rfl (fun K hK => ?_) AllReady.nil
      go_simp; refine hK _ _ ?_; clear hK K
      refine wpAny_ready (rs := [7]) (by kernel_rfl) (by simp) ?_; refine AllReady.cons rfl (fun K hK => ?_) AllReady.nil
      refine step_app _ (by rfl) _ _ 24 (by rfl) 46 (.agg #[.string ⟨#[]⟩, .string ⟨#[]⟩]) 2 32 Try.underlying24 (by kernel_rfl) rfl (by decide) V.heap.size _ 1 (fv [f]) (by rfl) hoA _ L.length (fv L) (by rfl) hrA (fv_one _) (by omega) (by decide) hbA.size ?_
      intro ad5 cap5 w5 hown5 hgrow5 hat5
      have hb5 : Below V.heap.size V w5 := ⟨hgrow5.os.trans hbA.os, hgrow5.tape.trans hbA.tape, hgrow5.output.trans hbA.output, Nat.le_trans hbA.size hgrow5.size, fun k hk => (hgrow5.block k (Nat.lt_of_lt_of_le hk hbA.size) (fun e => absurd (show V.heap.size ≤ k from (hoA.lt k e.symm).1) (Nat.not_le_of_lt hk))).trans (hbA.block k hk)⟩
      refine hK _ _ ?_
      clear hK K hat5 hgrow5
      have hrow5 := HROW.out.new hb5
      have g0 := hrow5.cell (j := 1) rfl
      have g1 := hrow5.frozen 1
      have HROW5 := hide hrow5; have HOWN5 := hide hown5
      clear hrow5 hown5 x0 x1 y1
      refine wpAny_take (i := 8) (v := ?_) rfl (by kernel_rfl) (by kernel_rfl) (by kernel_rfl) (fun _ _ _ h => h) (Or.inl ⟨by rfl, ?_⟩) ?_; rotate_left; focus (intro w; go_simp; try with_reducible rfl)
      refine wpAny_take (i := 9) (v := ?_) rfl (by kernel_rfl) (by kernel_rfl) (by kernel_rfl) (fun _ _ _ h => h) (Or.inl ⟨by rfl, ?_⟩) ?_; rotate_left; focus (intro w; go_simp; try with_reducible rfl)
      refine wpAny_ready (rs := [10]) (by kernel_rfl) (by simp) ?_; refine AllReady.cons rfl (fun K hK => ?_) AllReady.nil
      go_simp; refine hK _ _ ?_; clear hK K
      refine wpAny_done (by kernel_rfl) ?_ _
      have hta : TabAt (w5.setCell ⟨g, 1, none⟩ (.slice ad5 (1 + L.length) cap5)) g base room (f :: L) := by
        have e1 : (f :: L).length = 1 + L.length := by simp; omega
        refine ⟨⟨ad5, cap5, by rw [e1]; exact HROW5.out.set 1 _, ?_, ?_⟩⟩
        · rw [e1, show fv (f :: L) = fv [f] ++ fv L from fv_app [f] L]
          exact owns_base (owns_apart HOWN5.out ⟨g, 1, none⟩ _ (fun hq => by have := (HOWN5.out.lt g hq).1; have := hbV.size; omega)) (fun q hq => by have := (HOWN5.out.lt q hq).1; have := hbV.size; omega)
        · rw [e1]; exact fun hq => by have := (HOWN5.out.lt g hq).1; have := hbV.size; omega
      have ht5 : Turn g (g + 1) w (w5.setCell ⟨g, 1, none⟩ (.slice ad5 (1 + L.length) cap5)) := ((turn_new hbV g (g + 1)).trans (turn_new hb5 g (g + 1))).setCell (p := ⟨g, 1, none⟩) _ (.inl ⟨Nat.le_refl _, Nat.lt_succ_self _⟩)
      have HTA := hide hta; have HT5 := hide ht5
      clear hta ht5
      generalize w5.setCell ⟨g, 1, none⟩ (.slice ad5 (1 + L.length) cap5) = w6 at *
      go_wp2_with fail
      refine (shrink1 g base room (f :: L) _ HTA.out HALL.out hroom (by simp only [List.length_cons]; omega)).mono ?_; rintro x w7 ⟨rfl, hta7, ht7⟩
      have HTA7 := hide hta7
      clear hta7
      go_wp2_with fail
      refine bodyPost_end (v := .tuple #[]) (by simp [results, Try.results56, go_sem]) rfl ?_
      exact ⟨rfl, HTA7.out, HT5.out.trans ht7⟩
  · go_simp; refine hK _ _ ?_; clear hK K
    refine wpAny_ready (rs := [1]) (by kernel_rfl) (by simp) ?_; refine AllReady.cons rfl (fun K hK => ?_) AllReady.nil
    go_simp; refine hK _ _ ?_; clear hK K
    refine wpAny_ready (rs := [2]) (by kernel_rfl) (by simp) ?_; refine AllReady.cons rfl (fun K hK => ?_) AllReady.nil
    go_simp; refine hK _ _ ?_; clear hK K
    refine wpAny_ready (rs := [7]) (by kernel_rfl) (by simp) ?_; refine AllReady.cons rfl (fun K hK => ?_) AllReady.nil
    refine step_app _ (by rfl) _ _ 24 (by rfl) 46 (.agg #[.string ⟨#[]⟩, .string ⟨#[]⟩]) 2 32 Try.underlying24 (by kernel_rfl) rfl (by decide) V.heap.size _ 1 (fv [f]) (by rfl) hoA _ L.length (fv L) (by rfl) hrA (fv_one _) (by omega) (by decide) hbA.size ?_
    intro ad5 cap5 w5 hown5 hgrow5 hat5
    have hb5 : Below V.heap.size V w5 := ⟨hgrow5.os.trans hbA.os, hgrow5.tape.trans hbA.tape, hgrow5.output.trans hbA.output, Nat.le_trans hbA.size hgrow5.size, fun k hk => (hgrow5.block k (Nat.lt_of_lt_of_le hk hbA.size) (fun e => absurd (show V.heap.size ≤ k from (hoA.lt k e.symm).1) (Nat.not_le_of_lt hk))).trans (hbA.block k hk)⟩
    refine hK _ _ ?_
    clear hK K hat5 hgrow5
    have hrow5 := HROW.out.new hb5
    have g0 := hrow5.cell (j := 1) rfl
    have g1 := hrow5.frozen 1
    have HROW5 := hide hrow5; have HOWN5 := hide hown5
    clear hrow5 hown5 x0 x1 y1
    refine wpAny_take (i := 8) (v := ?_) rfl (by kernel_rfl) (by kernel_rfl) (by kernel_rfl) (fun _ _ _ h => h) (Or.inl ⟨by rfl, ?_⟩) ?_; rotate_left; focus (intro w; go_simp; try with_reducible rfl)
    refine wpAny_take (i := 9) (v := ?_) rfl (by kernel_rfl) (by kernel_rfl) (by kernel_rfl) (fun _ _ _ h => h) (Or.inl ⟨by rfl, ?_⟩) ?_; rotate_left; focus (intro w; go_simp; try with_reducible rfl)
    refine wpAny_ready (rs := [10]) (by kernel_rfl) (by simp) ?_; refine AllReady.cons rfl (fun K hK => ?_) AllReady.nil
    go_simp; refine hK _ _ ?_; clear hK K
    refine wpAny_done (by kernel_rfl) ?_ _
    have hta : TabAt (w5.setCell ⟨g, 1, none⟩ (.slice ad5 (1 + L.length) cap5)) g base room (f :: L) := by
      have e1 : (f :: L).length = 1 + L.length := by simp; omega
      refine ⟨⟨ad5, cap5, by rw [e1]; exact HROW5.out.set 1 _, ?_, ?_⟩⟩
      · rw [e1, show fv (f :: L) = fv [f] ++ fv L from fv_app [f] L]
        exact owns_base (owns_apart HOWN5.out ⟨g, 1, none⟩ _ (fun hq => by have := (HOWN5.out.lt g hq).1; have := hbV.size; omega)) (fun q hq => by have := (HOWN5.out.lt q hq).1; have := hbV.size; omega)
      · rw [e1]; exact fun hq => by have := (HOWN5.out.lt g hq).1; have := hbV.size; omega
    have ht5 : Turn g (g + 1) w (w5.setCell ⟨g, 1, none⟩ (.slice ad5 (1 + L.length) cap5)) := ((turn_new hbV g (g + 1)).trans (turn_new hb5 g (g + 1))).setCell (p := ⟨g, 1, none⟩) _ (.inl ⟨Nat.le_refl _, Nat.lt_succ_self _⟩)
    have HTA := hide hta; have HT5 := hide ht5
    clear hta ht5
    generalize w5.setCell ⟨g, 1, none⟩ (.slice ad5 (1 + L.length) cap5) = w6 at *
    go_wp2_with fail
    refine (shrink1 g base room (f :: L) _ HTA.out HALL.out hroom (by simp only [List.length_cons]; omega)).mono ?_; rintro x w7 ⟨rfl, hta7, ht7⟩
    have HTA7 := hide hta7
    clear hta7
    go_wp2_with fail
    refine bodyPost_end (v := .tuple #[]) (by simp [results, Try.results56, go_sem]) rfl ?_
    exact ⟨rfl, HTA7.out, HT5.out.trans ht7⟩
end Go.Proofs.Ytejmnkabmajebaa
