/- A Table that is drawn: its rows are owned and right; of what was there the cursor alone has moved. -/
import Derived.Test.YthjbmmppckgcjaaDrawField
import Derived.Test.YthjbmmppckgcjaaSpecNoted2


namespace Go.Proofs.Ythjbmmppckgcjaa
open Go.RowKit
set_option linter.unusedSimpArgs false
set_option linter.unusedVariables false

theorem TabAt.moves {w w' : World} {g b base : Nat} {room : Int} {L : List Fd} (h : TabAt w b base room L) (hm : Moves g w w') (hb : b ≠ g) (hg : g < base) : TabAt w' b base room L := by
  obtain ⟨a, p, h1, h2, h3⟩ := h.ex
  exact ⟨a, p, h1.moves hm hb, ownsRow_moves h2 hm hg, h3⟩
theorem small_fine {f : Fd} (h0 : f.n.size ≤ 100) (h1 : f.v.size ≤ 100) : f.fine := ⟨by omega, by omega⟩

set_option maxHeartbeats 2000000 in
theorem drawTab (g B : Nat) (w : World) (hc : Cur w g B) :
    Calls Try.prog 62 #[.pointer (some ⟨g, 0, none⟩)] w fun e w' => ∃ (room : Int) (v : Value) (L : List Fd), e = .returned (.agg #[.int .i64 room, v]) ∧ 0 ≤ room ∧ room ≤ 90 ∧ w'.ownsRow (w.heap.size + 1) 28 2 v L.length (fv L) ∧ (∀ f ∈ L, okF f = true) ∧ L.length ≤ 6 ∧ Cur w' g B ∧ Moves g w w' := by
  have hgw := hc.lt
  go_enter Try.func62, Try.ntmps62
  go_wp2_with fail
  generalize hw1 : w.alloc _ = w1
  have hc1 : Cur w1 g B := by rw [← hw1]; exact hc.alloc _
  have hm1 : Moves g w w1 := by rw [← hw1]; exact (Moves.refl g w).alloc _
  have hr1 : RowIs w1 w.heap.size 26 [.int .i64 0, .slice none 0 0] := by rw [← hw1]; exact rowIs_new w 26 [.int .i64 0, .slice none 0 0]
  have hs1 : w1.heap.size = w.heap.size + 1 := by rw [← hw1]; simp
  clear hw1 hc
  refine (below1 g B 90 _ hc1 (by omega)).mono ?_; rintro e w2 ⟨room, x0, x1, _, rfl, hc2, hm2⟩
  have x90 := x1 (by omega)
  have hs2 := hm2.size
  clear x1
  go_upto_region 2 with fail
  have hA : TabAt (w2.alloc (.cells #[.int .i64 room, .slice none 0 0] 26)) w2.heap.size (w.heap.size + 1) room [] := tabAt_new (L := []) ⟨rfl, .inl ⟨rfl, rfl⟩⟩
  have hcA := hc2.alloc (.cells #[.int .i64 room, .slice none 0 0] 26)
  have hmA := (hm1.trans hm2).alloc (.cells #[.int .i64 room, .slice none 0 0] 26)
  have hrA := (hr1.moves hm2 (by omega)).alloc (.cells #[.int .i64 room, .slice none 0 0] 26)
  obtain ⟨b, hb⟩ : ∃ b, b = w2.heap.size := ⟨_, rfl⟩
  rw [← hb] at hA
  have hb1 : w.heap.size < b := by omega
  clear hc1 hm1 hr1 hc2 hm2
  rw [← hb]
  generalize (w2.alloc (.cells #[.int .i64 room, .slice none 0 0] 26)) = w3 at *
  clear hb hs1 hs2
  go_wp2_with fail
  refine (below1 g B 7 _ hcA (by omega)).mono ?_; rintro e w4 ⟨n, n0, n1, _, rfl, hc4, hm4⟩
  have n7 := n1 (by omega)
  replace hA := hA.moves hm4 (by omega) (by omega)
  replace hrA := hrA.moves hm4 (by omega)
  replace hmA := hmA.trans hm4
  clear hm4 hcA n1
  go_wp2_with fail
  go_loopw [4] (fun n wr => ∃ (m : Nat) (L : List Fd), n = .int .i64 m ∧ m + L.length ≤ 6 ∧ TabAt wr b (w.heap.size + 1) room L ∧ (∀ f ∈ L, okF f = true) ∧ RowIs wr w.heap.size 26 [.int .i64 0, .slice none 0 0] ∧ Cur wr g B ∧ Moves g w wr) (fun n _ => (intOf n).toNat)
  case atStart =>
    obtain ⟨m, rfl⟩ : ∃ m : Nat, n = m := ⟨n.toNat, by omega⟩
    exact ⟨m, [], rfl, by simp; omega, hA, fun f hf => by simp at hf, hrA, hc4, hmA⟩
  case round =>
    obtain ⟨m, L, rfl, hmL, hT, hok, hR, hcr, hmr⟩ := hrel
    have hsr := hmr.size
    have HOK := hide hok
    clear hok
    by_cases hm : 0 < m
    · obtain ⟨m', rfl⟩ : ∃ m', m = m' + 1 := ⟨m - 1, by omega⟩
      go_wp2_with fail
      refine (drawField g B _ hcr).mono ?_; rintro e w5 ⟨f, hn, hv, rfl, hc5, hm5⟩
      replace hT := hT.moves hm5 (by omega) (by omega)
      replace hR := hR.moves hm5 (by omega)
      replace hmr := hmr.trans hm5
      clear hm5 hcr
      go_wp2_with fail
      have hA5 : Below w5.heap.size w5 (w5.alloc (.cells #[.string f.n, .string f.v] 28)) := (Below.refl _ _).alloc (Nat.le_refl _) _
      have hF5 := rowIs_new w5 28 [.string f.n, .string f.v]
      refine (specField f _ (small_fine hn hv)).mono ?_; rintro e w6 ⟨rfl, hb6⟩
      have hF6 := hF5.new hb6
      have hB6 := bchain hA5 hb6
      have hT6 := tabAt_later hT hB6
      have hR6 := hR.new hB6
      have hc6 := hc5.below hB6
      have hm6 := hmr.trans (Moves.of_below (g := g) hB6)
      have x0 := hF6.cell (j := 0) rfl
      have x1 := hF6.cell (j := 1) rfl
      have hl6 := hm6.size
      have hbl6 : b < w6.heap.size := by obtain ⟨_, _, h, _⟩ := hT6.ex; exact h.lt
      clear hb6 hB6 hA5 hF5 hF6 hT hR hc5 hmr
      cases hok : okF f
      · go_wp2_with fail
        go_roundw
        case rel => exact ⟨m', L, by go_num, by omega, hT6, HOK.out, hR6, hc6, hm6⟩
        case measure => simp [intOf]
      · go_wp2_with fail
        refine (note1 b (w.heap.size + 1) room L f _ hT6 HOK.out hok (by omega) (by omega) (by omega)).mono ?_; rintro e w7 ⟨rfl, hT7, ht7⟩
        have HT7 := hide hT7
        have hlen : m' + (shr room (f :: L)).length ≤ 6 := by have := shr_len (room := room) (f :: L); simp only [List.length_cons] at this; omega
        have HAL : Hid (∀ u ∈ shr room (f :: L), okF u = true) := shr_all (fun u hu => by rcases List.mem_cons.1 hu with rfl | hu; exact hok; exact HOK.out u hu)
        have hR7 := hR6.turn ht7 (by omega)
        have hc7 := hc6.turn ht7 (by omega)
        have hm7 := hm6.turned ht7 (by omega)
        clear hT7 ht7 hT6 hR6 hc6 hm6 x0 x1
        go_wp2_with fail
        go_roundw
        case rel => exact ⟨m', shr room (f :: L), by go_num, hlen, HT7.out, HAL.out, hR7, hc7, hm7⟩
        case measure => simp [intOf]
    · obtain rfl : m = 0 := by omega
      obtain ⟨a, p, hrow, hown, hap⟩ := hT.ex
      have HOWN := hide hown
      have c0 := hrow.cell (j := 0) rfl
      have c1 := hrow.cell (j := 1) rfl
      have r0 := hR.cell (j := 0) rfl
      have r1 := hR.cell (j := 1) rfl
      have p0 := hR.frozen 0
      have p1 := hR.frozen 1
      have hbw : w.heap.size ≠ b := by omega
      have hbw2 : b ≠ w.heap.size := by omega
      clear hown hap hT hrow
      go_wp2_with fail
      refine bodyPost_ret (v := (.agg #[.int .i64 room, .slice a L.length p])) (by simp [results, Try.results62, go_sem, *]) rfl ?_
      exact ⟨room, _, L, rfl, by omega, by omega, owns_far (w.heap.size + 1) (owns_far (w.heap.size + 1) HOWN.out (fun k hk => (HOWN.out.lt k hk).1) _ _ (by show w.heap.size < w.heap.size + 1; omega)) (fun k hk => (HOWN.out.lt k hk).1) _ _ (by show w.heap.size < w.heap.size + 1; omega), HOK.out, by omega, (hcr.set ⟨w.heap.size, 0, none⟩ (.int .i64 room) (by show g < w.heap.size; omega)).set ⟨w.heap.size, 1, none⟩ (.slice a L.length p) (by show g < w.heap.size; omega), (hmr.setNew ⟨w.heap.size, 0, none⟩ (Nat.le_refl w.heap.size) _).setNew ⟨w.heap.size, 1, none⟩ (Nat.le_refl w.heap.size) _⟩
end Go.Proofs.Ythjbmmppckgcjaa
