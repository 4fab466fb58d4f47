/- A Table that is drawn, right or not: its rows are owned and short; of what was there the cursor alone has moved. -/
import Derived.Test.YthjbmmppckgcjaaDrawTab
import Derived.Deep.DeepCutAuto



namespace Go.Proofs.Ythjbmmppckgcjaa
open Go.RowKit
set_option linter.unusedSimpArgs false
set_option linter.unusedVariables false

def Fd.small (f : Fd) : Prop := f.n.size ≤ 100 ∧ f.v.size ≤ 100
theorem Fd.small.fine {f : Fd} (h : f.small) : f.fine := small_fine h.1 h.2
theorem ok_small {f : Fd} (h : okF f = true) : f.small := by have := okF_parts h; exact ⟨by omega, by omega⟩

theorem cellI4 {u : World} {b : Nat} {ty : TypeId} {s0 s1 s2 s3 : Int} (h : RowIs u b ty [.int .i64 s0, .int .i64 s1, .int .i64 s2, .int .i64 s3]) (k : Nat) (hk : k < 4) : ∃ s : Int, u.cell? ⟨b, k, none⟩ = some (.int .i64 s) := by
  match k, hk with
  | 0, _ => exact ⟨s0, h.cell rfl⟩
  | 1, _ => exact ⟨s1, h.cell rfl⟩
  | 2, _ => exact ⟨s2, h.cell rfl⟩
  | 3, _ => exact ⟨s3, h.cell rfl⟩

/-- One more row behind the others, in the table's box. -/
theorem tabAt_more {w w' : World} {g base : Nat} {room : Int} {L : List Fd} {a ad : Option Addr} {p cap : Nat} {f : Fd} (hrow : RowIs w g 26 [.int .i64 room, .slice a L.length p]) (hg : w.grownBy w' (Value.slice a L.length p).ownBlock)
    (hap : (Value.slice a L.length p).ownBlock ≠ some g) (hown : w'.ownsRow base 28 2 (.slice ad (L.length + 1) cap) (L.length + 1) (fv L ++ fv [f]))
    (hat : (Value.slice ad (L.length + 1) cap).ownBlock = (Value.slice a L.length p).ownBlock ∨ (Value.slice ad (L.length + 1) cap).ownBlock = some w.heap.size) :
    RowIs w' g 26 [.int .i64 room, .slice a L.length p] ∧ TabAt (w'.setCell ⟨g, 1, none⟩ (.slice ad (L.length + 1) cap)) g base room (L ++ [f]) := by
  have hlt := hrow.lt
  have hr' : RowIs w' g 26 [.int .i64 room, .slice a L.length p] := hrow.kept (hg.block g hlt (fun e => hap e.symm))
  have hap' : (Value.slice ad (L.length + 1) cap).ownBlock ≠ some g := by
    rcases hat with h | h
    · rw [h]; exact hap
    · rw [h]; intro e; simp only [Option.some.injEq] at e; omega
  have e1 : (L ++ [f]).length = L.length + 1 := by simp
  refine ⟨hr', ⟨ad, cap, by rw [e1]; exact hr'.set 1 _, ?_, by rw [e1]; exact hap'⟩⟩
  rw [e1, fv_app]
  exact owns_apart hown _ _ hap'

theorem reads_row1 (w : World) (f : Fd) : Reads (w.alloc (.cells #[.string f.n, .string f.v] 28)) (.slice (some ⟨w.heap.size, 0, none⟩) 1 1) 1 2 (fv [f]) := reads_of_owns (owns_two w 28 f)

set_option maxHeartbeats 2000000 in
theorem drawAny (g B : Nat) (w : World) (hc : Cur w g B) :
    Calls Try.prog 37 #[.pointer (some ⟨g, 0, none⟩)] w fun e w' => ∃ (room : Int) (v : Value) (L : List Fd), e = .returned (.agg #[.int .i64 room, v]) ∧ w'.ownsRow (w.heap.size + 1) 28 2 v L.length (fv L) ∧ (∀ f ∈ L, f.small) ∧ L.length ≤ 7 ∧ Cur w' g B ∧ Moves g w w' := by
  have hgw := hc.lt
  go_enter Try.func37, Try.ntmps37
  go_wp2_with fail
  generalize hw1 : w.alloc _ = w1
  have hc1 : Cur w1 g B := by rw [← hw1]; exact hc.alloc _
  have hm1 : Moves g w w1 := by rw [← hw1]; exact (Moves.refl g w).alloc _
  have hr1 : RowIs w1 w.heap.size 26 [.int .i64 0, .slice none 0 0] := by rw [← hw1]; exact rowIs_new w 26 [.int .i64 0, .slice none 0 0]
  have hs1 : w1.heap.size = w.heap.size + 1 := by rw [← hw1]; simp
  clear hw1 hc
  refine (drawTab g B _ hc1).mono ?_; rintro e w2 ⟨room, v, L, rfl, x0, x1, hown, hok, hLen, hc2, hm2⟩
  obtain ⟨a, p, rfl, _⟩ := owns_form hown
  have hs2 := hm2.size
  have HOK : Hid (∀ f ∈ L, f.small) := fun f hf => ok_small (hok f hf)
  clear hok
  have hA0 := tabAt_new (room := room) (owns_base (base' := w.heap.size + 1) hown (fun k hk => by have := (hown.lt k hk).1; omega))
  go_upto_region 2 with fail
  have hcA := hc2.alloc (.cells #[.int .i64 room, .slice a L.length p] 26)
  have hmA := (hm1.trans hm2).alloc (.cells #[.int .i64 room, .slice a L.length p] 26)
  have hrA := (hr1.moves hm2 (by omega)).alloc (.cells #[.int .i64 room, .slice a L.length p] 26)
  obtain ⟨b, hb⟩ : ∃ b, b = w2.heap.size := ⟨_, rfl⟩
  rw [← hb] at hA0
  have hb1 : w.heap.size < b := by omega
  clear hc1 hm1 hr1 hc2 hm2 hown
  rw [← hb]
  generalize (w2.alloc (.cells #[.int .i64 room, .slice a L.length p] 26)) = w3 at *
  clear hb hs1 hs2
  go_wp2_with fail
  refine (once1 g B 12 _ hcA (by omega)).mono ?_; rintro e w4 ⟨v, rfl, hc4, hm4⟩
  replace hA0 := hA0.moves hm4 (by omega) (by omega)
  replace hrA := hrA.moves hm4 (by omega)
  replace hmA := hmA.trans hm4
  clear hm4 hcA
  go_upto_if 7 with fail
  go_cut [] (fun wc => ∃ (room : Int) (L : List Fd), TabAt wc b (w.heap.size + 1) room L ∧ (∀ f ∈ L, f.small) ∧ L.length ≤ 7 ∧ RowIs wc w.heap.size 26 [.int .i64 0, .slice none 0 0] ∧ Cur wc g B ∧ Moves g w wc)
  case first =>
    cases v
    · go_wp2_with fail
      go_meet
      exact ⟨room, L, hA0, HOK.out, by omega, hrA, hc4, hmA⟩
    go_wp2_with fail
    refine (below1 g B 3 _ hc4 (by omega)).mono ?_; rintro e w5 ⟨z, z0, z1, _, rfl, hc5, hm5⟩
    have z3 := z1 (by omega)
    replace hA0 := hA0.moves hm5 (by omega) (by omega)
    replace hrA := hrA.moves hm5 (by omega)
    replace hmA := hmA.trans hm5
    clear hm5 hc4 z1
    have hs5 := hmA.size
    obtain rfl | rfl | rfl : z = 0 ∨ z = 1 ∨ z = 2 := by omega
    · go_wp2_with fail
      have hb6 := rowIs_new w5 2 [.int .i64 (-1), .int .i64 0, .int .i64 1000, .int .i64 1001]
      have hb5 : Below w5.heap.size w5 (w5.alloc (.cells #[.int .i64 (-1), .int .i64 0, .int .i64 1000, .int .i64 1001] 2)) := (Below.refl _ _).alloc (Nat.le_refl _) _
      have hg5 := hc5.lt
      refine (below1 g B 4 _ (hc5.alloc _) (by omega)).mono ?_; rintro e w6 ⟨z, z0, z1, _, rfl, hc6, hm6⟩
      have z4 := z1 (by omega)
      obtain ⟨k, rfl⟩ : ∃ k : Nat, z = k := ⟨z.toNat, by omega⟩
      have hk : k < 4 := by omega
      obtain ⟨r, hcell⟩ := cellI4 (hb6.moves hm6 (by omega)) k hk
      have hA6 := (tabAt_later hA0 hb5).moves hm6 (by omega) (by omega)
      have hr6 := (hrA.new hb5).moves hm6 (by omega)
      have hm7 := (hmA.trans (Moves.of_below (g := g) hb5)).trans hm6
      obtain ⟨a6, p6, hrow, _, _⟩ := hA6.ex
      have c0 := hrow.cell (j := 0) rfl
      have e0 := hrow.frozen 0
      clear hb6 hb5 hm6 hA0 hrA hmA hrow
      go_wp2_with fail
      go_meet
      exact ⟨r, L, tabAt_room hA6 r, HOK.out, by omega, hr6.far _ _ (by show b ≠ w.heap.size; omega), hc6.set ⟨b, 0, none⟩ _ (by show g < b; omega), hm7.setNew ⟨b, 0, none⟩ (by show w.heap.size ≤ b; omega) _⟩
    · go_wp2_with fail
      obtain ⟨a5, p5, hrow, hown, hap⟩ := hA0.ex
      have c1 := hrow.cell (j := 1) rfl
      refine wp_region_any (by kernel_rfl) ?_; change wpAny _ _ _ _ _ _ _ (World.drew _)
      refine wpAny_take (i := 0) (v := ?_) rfl (by kernel_rfl) (by kernel_rfl) (by kernel_rfl) (fun _ _ _ h => h) (Or.inl ⟨by rfl, ?_⟩) ?_; rotate_left; focus (intro w; go_simp; try with_reducible rfl)
      refine wpAny_take (i := 2) (v := ?_) rfl (by kernel_rfl) (by kernel_rfl) (by kernel_rfl) (fun _ _ _ h => h) (Or.inl ⟨by rfl, ?_⟩) ?_; rotate_left; focus (intro w; go_simp; try with_reducible rfl)
      refine wpAny_ready (rs := [1, 3]) (by kernel_rfl) (by simp) ?_; refine AllReady.cons rfl (fun K hK => ?_) (AllReady.cons rfl (fun K hK => ?_) AllReady.nil)
      · go_simp; refine hK _ _ ?_; clear hK K
        refine wpAny_ready (rs := [3]) (by kernel_rfl) (by simp) ?_; refine AllReady.cons rfl (fun K hK => ?_) AllReady.nil
        go_simp
        refine (drawField g B _ hc5.drew).mono ?_; rintro e w6 ⟨f, hn, hv, rfl, hc6, hm6⟩
        refine hK _ _ ?_; clear hK K
        replace hm6 : Moves g w5 w6 := ((Moves.refl g w5).drew).trans hm6
        have hrow6 := hrow.moves hm6 (by omega)
        have c6 := hrow6.cell (j := 1) rfl
        have hX : Below w6.heap.size w6 (w6.alloc (.cells #[.string f.n, .string f.v] 28)) := (Below.refl _ _).alloc (Nat.le_refl _) _
        have hrowX := hrow6.new hX
        have hownX := owns_new (ownsRow_moves hown hm6 (by omega)) hX
        have cX := hrowX.cell (j := 1) rfl
        have hcX := hc6.below hX
        have hmX := (hmA.trans hm6).trans (Moves.of_below (g := g) hX)
        have hrX := (hrA.moves hm6 (by omega)).new hX
        have hRd := reads_row1 w6 f
        have hsX := hmX.size
        have HSM : Hid (∀ u ∈ L ++ [f], u.small) := fun u hu => by rcases List.mem_append.1 hu with h | h; exact HOK.out u h; simp at h; rw [h]; exact ⟨hn, hv⟩
        refine wpAny_ready (rs := [4]) (by kernel_rfl) (by simp) ?_; refine AllReady.cons rfl (fun K hK => ?_) AllReady.nil
        go_simp; refine hK _ _ ?_; clear hK K
        refine wpAny_ready (rs := [5]) (by kernel_rfl) (by simp) ?_; refine AllReady.cons rfl (fun K hK => ?_) AllReady.nil
        refine step_app _ (by rfl) _ _ 24 (by rfl) 28 (.agg #[.string ⟨#[]⟩, .string ⟨#[]⟩]) 2 32 Try.underlying24 (by kernel_rfl) rfl (by decide) (w.heap.size + 1) _ L.length (fv L) (by rfl) hownX _ 1 (fv [f]) (by rfl) hRd (fv_one _) (by omega) (by decide) (by have := hrowX.lt; omega) ?_
        intro ad7 cap7 w7 hown7 hg7 hat7
        refine hK _ _ ?_; clear hK K
        obtain ⟨hr7, hT7⟩ := tabAt_more hrowX hg7 hap hown7 hat7
        have hc7 : Cur w7 g B := hcX.grown hg7 (fun k hk => by have := (hownX.lt k hk).1; omega)
        have hm7 : Moves g w w7 := hmX.grown hg7 (fun k hk => by have := (hownX.lt k hk).1; omega)
        have hq7 := hrX.kept (hg7.block w.heap.size hrX.lt (fun e => by have := (hownX.lt _ e.symm).1; omega))
        have g0 := hr7.cell (j := 1) rfl
        have g1 := hr7.frozen 1
        have HT7 := hide hT7
        clear hT7 hr7 hat7 hg7 hown7 hownX hrowX hRd
        refine wpAny_take (i := 6) (v := ?_) rfl (by kernel_rfl) (by kernel_rfl) (by kernel_rfl) (fun _ _ _ h => h) (Or.inl ⟨by rfl, ?_⟩) ?_; rotate_left; focus (intro w; go_simp; try with_reducible rfl)
        refine wpAny_ready (rs := [7]) (by kernel_rfl) (by simp) ?_; refine AllReady.cons rfl (fun K hK => ?_) AllReady.nil
        go_simp; refine hK _ _ ?_; clear hK K
        refine wpAny_done (by kernel_rfl) ?_ _
        go_wp2_with fail
        go_meet
        exact ⟨room, L ++ [f], HT7.out, HSM.out, by simp; omega, hq7.far _ _ (by show b ≠ w.heap.size; omega), hc7.set ⟨b, 1, none⟩ _ (by show g < b; omega), hm7.setNew ⟨b, 1, none⟩ (by show w.heap.size ≤ b; omega) _⟩
      · go_simp
        refine (drawField g B _ hc5.drew).mono ?_; rintro e w6 ⟨f, hn, hv, rfl, hc6, hm6⟩
        refine hK _ _ ?_; clear hK K
        replace hm6 : Moves g w5 w6 := ((Moves.refl g w5).drew).trans hm6
        have hrow6 := hrow.moves hm6 (by omega)
        have c6 := hrow6.cell (j := 1) rfl
        have hX : Below w6.heap.size w6 (w6.alloc (.cells #[.string f.n, .string f.v] 28)) := (Below.refl _ _).alloc (Nat.le_refl _) _
        have hrowX := hrow6.new hX
        have hownX := owns_new (ownsRow_moves hown hm6 (by omega)) hX
        have cX := hrowX.cell (j := 1) rfl
        have hcX := hc6.below hX
        have hmX := (hmA.trans hm6).trans (Moves.of_below (g := g) hX)
        have hrX := (hrA.moves hm6 (by omega)).new hX
        have hRd := reads_row1 w6 f
        have hsX := hmX.size
        have HSM : Hid (∀ u ∈ L ++ [f], u.small) := fun u hu => by rcases List.mem_append.1 hu with h | h; exact HOK.out u h; simp at h; rw [h]; exact ⟨hn, hv⟩
        refine wpAny_ready (rs := [1, 4]) (by kernel_rfl) (by simp) ?_; refine AllReady.cons rfl (fun K hK => ?_) (AllReady.cons rfl (fun K hK => ?_) AllReady.nil)
        · go_simp; refine hK _ _ ?_; clear hK K
          refine wpAny_ready (rs := [4]) (by kernel_rfl) (by simp) ?_; refine AllReady.cons rfl (fun K hK => ?_) AllReady.nil
          go_simp; refine hK _ _ ?_; clear hK K
          refine wpAny_ready (rs := [5]) (by kernel_rfl) (by simp) ?_; refine AllReady.cons rfl (fun K hK => ?_) AllReady.nil
          refine step_app _ (by rfl) _ _ 24 (by rfl) 28 (.agg #[.string ⟨#[]⟩, .string ⟨#[]⟩]) 2 32 Try.underlying24 (by kernel_rfl) rfl (by decide) (w.heap.size + 1) _ L.length (fv L) (by rfl) hownX _ 1 (fv [f]) (by rfl) hRd (fv_one _) (by omega) (by decide) (by have := hrowX.lt; omega) ?_
          intro ad7 cap7 w7 hown7 hg7 hat7
          refine hK _ _ ?_; clear hK K
          obtain ⟨hr7, hT7⟩ := tabAt_more hrowX hg7 hap hown7 hat7
          have hc7 : Cur w7 g B := hcX.grown hg7 (fun k hk => by have := (hownX.lt k hk).1; omega)
          have hm7 : Moves g w w7 := hmX.grown hg7 (fun k hk => by have := (hownX.lt k hk).1; omega)
          have hq7 := hrX.kept (hg7.block w.heap.size hrX.lt (fun e => by have := (hownX.lt _ e.symm).1; omega))
          have g0 := hr7.cell (j := 1) rfl
          have g1 := hr7.frozen 1
          have HT7 := hide hT7
          clear hT7 hr7 hat7 hg7 hown7 hownX hrowX hRd
          refine wpAny_take (i := 6) (v := ?_) rfl (by kernel_rfl) (by kernel_rfl) (by kernel_rfl) (fun _ _ _ h => h) (Or.inl ⟨by rfl, ?_⟩) ?_; rotate_left; focus (intro w; go_simp; try with_reducible rfl)
          refine wpAny_ready (rs := [7]) (by kernel_rfl) (by simp) ?_; refine AllReady.cons rfl (fun K hK => ?_) AllReady.nil
          go_simp; refine hK _ _ ?_; clear hK K
          refine wpAny_done (by kernel_rfl) ?_ _
          go_wp2_with fail
          go_meet
          exact ⟨room, L ++ [f], HT7.out, HSM.out, by simp; omega, hq7.far _ _ (by show b ≠ w.heap.size; omega), hc7.set ⟨b, 1, none⟩ _ (by show g < b; omega), hm7.setNew ⟨b, 1, none⟩ (by show w.heap.size ≤ b; omega) _⟩
        · go_simp; refine hK _ _ ?_; clear hK K
          refine wpAny_ready (rs := [1]) (by kernel_rfl) (by simp) ?_; refine AllReady.cons rfl (fun K hK => ?_) AllReady.nil
          go_simp; refine hK _ _ ?_; clear hK K
          refine wpAny_ready (rs := [5]) (by kernel_rfl) (by simp) ?_; refine AllReady.cons rfl (fun K hK => ?_) AllReady.nil
          refine step_app _ (by rfl) _ _ 24 (by rfl) 28 (.agg #[.string ⟨#[]⟩, .string ⟨#[]⟩]) 2 32 Try.underlying24 (by kernel_rfl) rfl (by decide) (w.heap.size + 1) _ L.length (fv L) (by rfl) hownX _ 1 (fv [f]) (by rfl) hRd (fv_one _) (by omega) (by decide) (by have := hrowX.lt; omega) ?_
          intro ad7 cap7 w7 hown7 hg7 hat7
          refine hK _ _ ?_; clear hK K
          obtain ⟨hr7, hT7⟩ := tabAt_more hrowX hg7 hap hown7 hat7
          have hc7 : Cur w7 g B := hcX.grown hg7 (fun k hk => by have := (hownX.lt k hk).1; omega)
          have hm7 : Moves g w w7 := hmX.grown hg7 (fun k hk => by have := (hownX.lt k hk).1; omega)
          have hq7 := hrX.kept (hg7.block w.heap.size hrX.lt (fun e => by have := (hownX.lt _ e.symm).1; omega))
          have g0 := hr7.cell (j := 1) rfl
          have g1 := hr7.frozen 1
          have HT7 := hide hT7
          clear hT7 hr7 hat7 hg7 hown7 hownX hrowX hRd
          refine wpAny_take (i := 6) (v := ?_) rfl (by kernel_rfl) (by kernel_rfl) (by kernel_rfl) (fun _ _ _ h => h) (Or.inl ⟨by rfl, ?_⟩) ?_; rotate_left; focus (intro w; go_simp; try with_reducible rfl)
          refine wpAny_ready (rs := [7]) (by kernel_rfl) (by simp) ?_; refine AllReady.cons rfl (fun K hK => ?_) AllReady.nil
          go_simp; refine hK _ _ ?_; clear hK K
          refine wpAny_done (by kernel_rfl) ?_ _
          go_wp2_with fail
          go_meet
          exact ⟨room, L ++ [f], HT7.out, HSM.out, by simp; omega, hq7.far _ _ (by show b ≠ w.heap.size; omega), hc7.set ⟨b, 1, none⟩ _ (by show g < b; omega), hm7.setNew ⟨b, 1, none⟩ (by show w.heap.size ≤ b; omega) _⟩
    · obtain ⟨a5, p5, hrow, hown, hap⟩ := hA0.ex
      have c1 := hrow.cell (j := 1) rfl
      have hX : Below w5.heap.size w5 (w5.alloc (.cells #[.string ⟨#[]⟩, .string ⟨#[]⟩] 28)) := (Below.refl _ _).alloc (Nat.le_refl _) _
      have hrowX := hrow.new hX
      have hownX := owns_new hown hX
      have hcX := hc5.below hX
      have hmX := hmA.trans (Moves.of_below (g := g) hX)
      have hrX := hrA.new hX
      have hRd := reads_row1 w5 ⟨⟨#[]⟩, ⟨#[]⟩⟩
      have hsX := hmX.size
      have HSM : Hid (∀ u ∈ L ++ [(⟨⟨#[]⟩, ⟨#[]⟩⟩ : Fd)], u.small) := fun u hu => by rcases List.mem_append.1 hu with h | h; exact HOK.out u h; simp at h; rw [h]; exact ⟨Nat.zero_le _, Nat.zero_le _⟩
      go_wp2_with (at_builtin; refine Hid.out ?_)
      refine (wpList_app _ rfl _ _ 24 rfl 28 (.agg #[.string ⟨#[]⟩, .string ⟨#[]⟩]) 2 32 Try.underlying24 (by kernel_rfl) rfl (by decide) (w.heap.size + 1) (.slice a5 L.length p5) L.length (fv L) rfl hownX (.slice (some ⟨w5.heap.size, 0, none⟩) 1 1) 1 (fv [⟨⟨#[]⟩, ⟨#[]⟩⟩]) rfl hRd (fv_one _) ?f3 (by decide) ?f4 ?_)
      case f3 => omega
      case f4 => have := hrowX.lt; omega
      intro ad7 cap7 w7 hown7 hg7 hat7
      obtain ⟨hr7, hT7⟩ := tabAt_more hrowX hg7 hap hown7 hat7
      have hc7 : Cur w7 g B := hcX.grown hg7 (fun k hk => by have := (hownX.lt k hk).1; omega)
      have hm7 : Moves g w w7 := hmX.grown hg7 (fun k hk => by have := (hownX.lt k hk).1; omega)
      have hq7 := hrX.kept (hg7.block w.heap.size hrX.lt (fun e => by have := (hownX.lt _ e.symm).1; omega))
      have g0 := hr7.cell (j := 1) rfl
      have g1 := hr7.frozen 1
      have HT7 := hide hT7
      clear hT7 hr7 hat7 hg7 hown7 hownX hrowX hRd hX hown hrow hap hA0
      go_wp2_with fail
      go_meet
      exact ⟨room, L ++ [⟨⟨#[]⟩, ⟨#[]⟩⟩], HT7.out, HSM.out, by simp; omega, hq7.far _ _ (by show b ≠ w.heap.size; omega), hc7.set ⟨b, 1, none⟩ _ (by show g < b; omega), hm7.setNew ⟨b, 1, none⟩ (by show w.heap.size ≤ b; omega) _⟩
  case rest =>
    obtain ⟨room, L, hT, hsm, hLL, hR, hcr, hmr⟩ := hcut
    obtain ⟨a, p, hrow, hown, hap⟩ := hT.ex
    have HOWN := hide hown
    have HSM := hide hsm
    have c0 := hrow.cell (j := 0) rfl
    have c1 := hrow.cell (j := 1) rfl
    have r0 := hR.cell (j := 0) rfl
    have r1 := hR.cell (j := 1) rfl
    have p0 := hR.frozen 0
    have p1 := hR.frozen 1
    have hbw : w.heap.size ≠ b := by omega
    have hbw2 : b ≠ w.heap.size := by omega
    clear hown hap hT hrow hsm
    go_wp2_with fail
    refine bodyPost_ret (v := (.agg #[.int .i64 room, .slice a L.length p])) (by simp [results, Try.results37, go_sem, *]) rfl ?_
    exact ⟨room, _, L, rfl, owns_far (w.heap.size + 1) (owns_far (w.heap.size + 1) HOWN.out (fun k hk => (HOWN.out.lt k hk).1) _ _ (by show w.heap.size < w.heap.size + 1; omega)) (fun k hk => (HOWN.out.lt k hk).1) _ _ (by show w.heap.size < w.heap.size + 1; omega), HSM.out, by omega, (hcr.set ⟨w.heap.size, 0, none⟩ (.int .i64 room) (by show g < w.heap.size; omega)).set ⟨w.heap.size, 1, none⟩ (.slice a L.length p) (by show g < w.heap.size; omega), (hmr.setNew ⟨w.heap.size, 0, none⟩ (Nat.le_refl w.heap.size) _).setNew ⟨w.heap.size, 1, none⟩ (Nat.le_refl w.heap.size) _⟩
end Go.Proofs.Ythjbmmppckgcjaa
