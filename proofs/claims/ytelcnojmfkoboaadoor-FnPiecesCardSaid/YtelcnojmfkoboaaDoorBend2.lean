/- A text that is bent: the walk. -/
import Derived.Test.YtelcnojmfkoboaaDoorBend
namespace Go.Proofs.YtelcnojmfkoboaaDoor
open Go.RowKit
set_option maxRecDepth 100000
set_option linter.unusedSimpArgs false
set_option linter.unusedVariables false
attribute [local go_sem ↓] Go.wp_at_zero Go.wp_at_succ

theorem moves_bytes {g : Nat} {w a : World} (h : Moves g w a) (s : ByteArray) : Moves g w (Lib.bytesWorld a 5 s) :=
  h.trans ⟨rfl, rfl, rfl, by rw [Lib.bytesWorld_size]; omega, fun k hk _ => Lib.bytesWorld_at_old a 5 s k hk⟩

theorem BR.set {w : World} {base n cap blk : Nat} (h : BR w base (some ⟨blk, 0, none⟩) n cap) (k : Nat) (u : Value) (hu : ByteVal u) : BR (w.setCell ⟨blk, k, none⟩ u) base (some ⟨blk, 0, none⟩) n cap := by
  obtain ⟨h1, h2, h3⟩ := h
  refine ⟨h1, h2, fun hn => ?_⟩
  obtain ⟨b', e, hb, hl, hc⟩ := h3 hn
  simp only [Option.some.injEq, Addr.mk.injEq, and_true] at e
  subst e
  refine ⟨blk, rfl, hb, by simpa using hl, fun j hj => ?_⟩
  obtain ⟨⟨v, hv, hcv⟩, hf⟩ := hc j hj
  refine ⟨?_, by rw [World.frozen?_setCell]; exact hf⟩
  by_cases hjk : k = j
  · subst hjk
    exact ⟨u, hu, World.cell?_setCell_same' _ _ _ (by rw [hcv]; rfl)⟩
  · refine ⟨v, hv, ?_⟩
    exact (World.cell?_setCell_other _ ⟨blk, k, none⟩ ⟨blk, j, none⟩ _ (by simp [hjk])).trans hcv

theorem owns_ad {w : World} {base : Nat} {e : TypeId} {size n cap : Nat} {ad : Option Addr} {xs : List Value} (h : w.ownsRow base e size (.slice ad n cap) n xs) : ad = none ∨ ∃ b o, ad = some ⟨b, o, none⟩ := by
  rcases h.2 with ⟨h2, _⟩ | ⟨g, cap', cur, e1, _⟩
  · simp only [Value.slice.injEq] at h2; exact .inl h2.1
  · simp only [Value.slice.injEq] at e1; exact .inr ⟨g, 0, e1.1⟩

set_option maxRecDepth 100000 in
set_option maxHeartbeats 8000000 in
theorem bend1 (g B : Nat) (s sg : ByteArray) (w : World) (hc : Cur w g B) (hs : s.size ≤ 1000000) (hg0 : 0 < sg.size) (hg1 : sg.size ≤ 1000) :
    Calls Tryd.prog 33 #[.pointer (some ⟨g, 0, none⟩), .string s, .string sg] w fun e w' => ∃ t : ByteArray, t.size ≤ s.size + 2 ∧ e = .returned (.string t) ∧ Cur w' g B ∧ Moves g w w' := by
  have hgw := hc.lt
  have hcv := Lib.run_convert_string_bytes (P := Tryd.prog) w 9 22 5 s Tryd.underlying9 Tryd.underlying22 Tryd.underlying5
  have hcap := grownCap_ge w s.size 0 5
  have hcap2 := grownCap_le_maxLen w s.size 0 5 (by unfold maxLen; omega)
  have HBR := br_new w s hs hcap2 hcap
  have hm0 : Moves g w (Lib.bytesWorld w 5 s) := moves_bytes (Moves.refl g w) s
  have hc0 : Cur (Lib.bytesWorld w 5 s) g B := hc.kept ⟨rfl, rfl, rfl, by rw [Lib.bytesWorld_size]; omega, fun k hk => Lib.bytesWorld_at_old w 5 s k (by omega)⟩
  generalize Lib.bytesWorld w 5 s = w0 at hcv HBR hm0 hc0
  generalize grownCap w s.size 0 5 = cap0 at hcv HBR hcap hcap2
  unfold maxLen at hcap2
  go_enter Tryd.func33, Tryd.ntmps33
  go_wp2_with fail
  refine (below1 g B 3 _ hc0 (by omega)).mono ?_; rintro e w1 ⟨x, x0, x1, x2, rfl, hc1, hm1⟩
  have x3 := x1 (by omega)
  have HB1 := HBR.moves hm1 hgw
  have hw1 := hm0.trans hm1
  go_wp2_with fail
  go_loopw [7, 8] (fun v n wr => ∃ (ad : Option Addr) (len cap m : Nat), v = .slice ad len cap ∧ n = .int .i64 m ∧ len + m ≤ s.size + 2 ∧ BR wr w.heap.size ad len cap ∧ (len = 0 → ad = none ∨ ∃ b o, ad = some ⟨b, o, none⟩) ∧ Cur wr g B ∧ Moves g w wr) (fun _ n _ => (intOf n).toNat)
  case atStart =>
    obtain ⟨m, rfl⟩ : ∃ m : Nat, x = m := ⟨x.toNat, by omega⟩
    exact ⟨_, _, _, m, rfl, rfl, by omega, HB1, fun _ => .inr ⟨_, _, rfl⟩, hc1, hw1⟩
  case round =>
    obtain ⟨ad, len, cap, m, rfl, rfl, hlm, hbr, had, hcr, hmr⟩ := hrel
    have hsr := hmr.size
    by_cases hgo : 0 < m ∧ 0 < len
    · obtain ⟨hm0', hlen⟩ := hgo
      obtain ⟨m', rfl⟩ : ∃ m', m = m' + 1 := ⟨m - 1, by omega⟩
      have hlen' : (0 : Int) < len := by omega
      obtain ⟨hlc, hcm, hbr3⟩ := hbr
      obtain ⟨blk, rfl, hblk, hblt, hcells⟩ := hbr3 hlen
      have HBR2 : BR wr w.heap.size (some ⟨blk, 0, none⟩) len cap := ⟨hlc, hcm, fun _ => ⟨blk, rfl, hblk, hblt, hcells⟩⟩
      unfold maxLen at hcm
      go_wp2_with fail
      refine (below1 g B _ _ hcr (by omega)).mono ?_; rintro e w2 ⟨k, k0, k1, k2, rfl, hc2, hm2⟩
      obtain ⟨k, rfl⟩ : ∃ k' : Nat, k = k' := ⟨k.toNat, by omega⟩
      have k3 : (k : Int) < len := k1 hlen'
      go_wp2_with fail
      refine (below1 g B 4 _ hc2 (by omega)).mono ?_; rintro e w3 ⟨y, y0, y1, y2, rfl, hc3, hm3⟩
      have y3 := y1 (by omega)
      have HB3 := (HBR2.moves hm2 (by omega)).moves hm3 (by omega)
      have hmw : Moves g w w3 := (hmr.trans hm2).trans hm3
      have hs3 := hmw.size
      have hblk3 : blk < w3.heap.size := by have := hm2.size; have := hm3.size; omega
      clear hcells hbr3 HBR2 hm2 hm3 hc2 hmr hcr
      obtain h | h | h | h : y = 0 ∨ y = 1 ∨ y = 2 ∨ y = 3 := by omega
      · subst h
        go_wp2_with fail
        refine (below1 g B _ _ hc3 (by omega)).mono ?_; rintro e w4 ⟨j, j0, j1, j2, rfl, hc4, hm4⟩
        obtain ⟨j, rfl⟩ : ∃ j' : Nat, j = j' := ⟨j.toNat, by omega⟩
        have j3 : (j : Int) < sg.size := j1 (by omega)
        have j4 : j < sg.size := by omega
        have HB4 := HB3.moves hm4 (by omega)
        obtain ⟨blk', e, _, hl4, hcc⟩ := HB4.2.2 hlen
        simp only [Option.some.injEq, Addr.mk.injEq, and_true] at e
        subst e
        obtain ⟨⟨v, hv, hcv4⟩, hf4⟩ := hcc k (by omega)
        have hby : ByteVal (.int .u8 (sg[j].toNat : Int)) := ⟨_, rfl, by omega, by have := sg[j].toNat_lt; omega⟩
        have HB5 := HB4.set k _ hby
        have hm5 : Moves g w (w4.setCell ⟨blk, k, none⟩ (.int .u8 (sg[j].toNat : Int))) := (hmw.trans hm4).setNew _ hblk _
        have hc5 := hc4.set ⟨blk, k, none⟩ (.int .u8 (sg[j].toNat : Int)) (by simp; omega)
        clear HB4 hcc hv
        go_wp2_with fail
        go_roundw
        case rel => exact ⟨_, _, _, m', rfl, by go_num, by omega, HB5, fun _ => .inr ⟨_, _, rfl⟩, hc5, hm5⟩
        case measure => simp [intOf]
      · subst h
        go_wp2_with fail
        go_roundw
        case rel => exact ⟨_, _, _, m', rfl, by go_num, by omega, HB3.cut k (by omega), fun _ => .inr ⟨_, _, rfl⟩, hc3, hmw⟩
        case measure => simp [intOf]
      · subst h
        have hkc : k ≤ cap := by omega
        have hk1 : k + 1 ≤ len := by omega
        have hk2 : ((k : Int) + 1).toNat = k + 1 := by omega
        have hk4 : (k : Int) + 1 ≤ len := by omega
        have hk5 : (0 : Int) ≤ (k : Int) + 1 := by omega
        have hwr : IntKind.i64.wrap ((k : Int) + 1) = (k : Int) + 1 := by rw [IntKind.wrap_i64]; omega
        obtain ⟨xs, hx1, hx2, hx3⟩ := HB3.window 0 k cap (by omega) (by omega) HB3.2.1 (some ⟨blk, 0, none⟩) (fun _ => rfl)
        obtain ⟨ys, hy1, hy2, hy3⟩ := HB3.window (k + 1) (len - (k + 1)) (cap - (k + 1)) (by omega) (by omega) (by unfold maxLen; omega) (if cap = k + 1 then some ⟨blk, 0, none⟩ else some ⟨blk, k + 1, none⟩) (fun h => if_neg (by omega))
        go_wp2_with fail
        refine wp_region_any (by kernel_rfl) ?_
        change wpAny _ _ _ _ _ _ _ (World.drew _)
        refine wpAny_take (i := 1) (v := ?_) rfl (by kernel_rfl) (by kernel_rfl) (by kernel_rfl) (fun _ _ _ h => h) (Or.inl ⟨by rfl, ?_⟩) ?_; rotate_left; focus (intro w; go_simp; try with_reducible rfl)
        refine wpAny_take (i := 2) (v := ?_) rfl (by kernel_rfl) (by kernel_rfl) (by kernel_rfl) (fun _ _ _ h => h) (Or.inl ⟨by rfl, ?_⟩) ?_; rotate_left; focus (intro w; go_simp; try with_reducible rfl)
        refine wpAny_take (i := 3) (v := ?_) rfl (by kernel_rfl) (by kernel_rfl) (by kernel_rfl) (fun _ _ _ h => h) (Or.inl ⟨by rfl, ?_⟩) ?_; rotate_left; focus (intro w; go_simp; try with_reducible rfl)
        refine wpAny_take (i := 5) (v := ?_) rfl (by kernel_rfl) (by kernel_rfl) (by kernel_rfl) (fun _ _ _ h => h) (Or.inl ⟨by rfl, ?_⟩) ?_; rotate_left; focus (intro w; go_simp; try with_reducible rfl)
        refine wpAny_take (i := 6) (v := ?_) rfl (by kernel_rfl) (by kernel_rfl) (by kernel_rfl) (fun _ _ _ h => h) (Or.inl ⟨by rfl, ?_⟩) ?_; rotate_left; focus (intro w; go_simp; try with_reducible rfl)
        refine wpAny_take (i := 7) (v := ?_) rfl (by kernel_rfl) (by kernel_rfl) (by kernel_rfl) (fun _ _ _ h => h) (Or.inl ⟨by rfl, ?_⟩) ?_; rotate_left; focus (intro w; go_simp; try with_reducible rfl)
        refine wpAny_take (i := 8) (v := ?_) rfl (by kernel_rfl) (by kernel_rfl) (by kernel_rfl) (fun _ _ _ h => h) (Or.inl ⟨by rfl, ?_⟩) ?_; rotate_left; focus (intro w; go_simp; try with_reducible rfl)
        refine wpAny_ready (rs := [0]) (by kernel_rfl) (by simp) ?_; refine AllReady.cons rfl (fun K hK => ?_) AllReady.nil; go_simp; refine hK _ _ ?_; clear hK K
        have hV : ((w3.alloc (.cells #[] 5)).drew).ownsRow w.heap.size 5 1 (.slice (some ⟨w3.heap.size, 0, none⟩) 0 0) 0 [] := World.ownsRow_made w3 #[] 0 hs3 (Nat.zero_le _) rfl
        have hrx : Reads ((w3.alloc (.cells #[] 5)).drew) (.slice (some ⟨blk, 0, none⟩) k cap) k 1 xs := (hx3.alloc _).new (Below.refl _ _).drew
        have hry : Reads ((w3.alloc (.cells #[] 5)).drew) (.slice (if cap = k + 1 then some ⟨blk, 0, none⟩ else some ⟨blk, k + 1, none⟩) (len - (k + 1)) (cap - (k + 1))) (len - (k + 1)) 1 ys := (hy3.alloc _).new (Below.refl _ _).drew
        have hmV : Moves g w ((w3.alloc (.cells #[] 5)).drew) := (hmw.alloc _).drew
        have hcV : Cur ((w3.alloc (.cells #[] 5)).drew) g B := (hc3.alloc _).drew
        have hsV : ((w3.alloc (.cells #[] 5)).drew).heap.size = w3.heap.size + 1 := by show (w3.alloc _).heap.size = _; simp
        refine wpAny_ready (rs := [4]) (by kernel_rfl) (by simp) ?_
        refine AllReady.cons rfl (fun K hK => ?_) AllReady.nil
        refine step_app _ (by rfl) _ _ 22 (by rfl) 5 (.int .u8 0) 1 1 Tryd.underlying22 (by kernel_rfl) rfl (by decide) w.heap.size (.slice (some ⟨w3.heap.size, 0, none⟩) 0 0) 0 [] (by rfl) hV (.slice (some ⟨blk, 0, none⟩) k cap) k xs (by rfl) hrx (bytes_one hx1) (by omega) (by decide) (by omega) ?_
        intro ad5 cap5 w5 hown5 hgrow5 hat5
        refine hK _ _ ?_; clear hK K
        have hmV5 := hmV.grown hgrow5 (fun k hk => (hV.lt k hk).1)
        have hcV5 := hcV.grown hgrow5 (fun k hk => by have := (hV.lt k hk).1; omega)
        have hs5 := hmV5.size
        have hry5 := hry.kept hgrow5.size (fun q e hq => hgrow5.block q hq (fun e2 => by
          have hqe : q = blk := by
            by_cases hce : cap = k + 1
            · rw [if_pos hce] at e; simpa [Value.ownBlock] using e.symm
            · rw [if_neg hce] at e; simpa [Value.ownBlock] using e.symm
          have hq3 : q = w3.heap.size := by simpa [Value.ownBlock] using e2
          omega))
        clear hry hrx hV hmV hcV hgrow5 hat5 hx3 hy3
        refine wpAny_ready (rs := [9]) (by kernel_rfl) (by simp) ?_
        refine AllReady.cons rfl (fun K hK => ?_) AllReady.nil
        refine step_app _ (by rfl) _ _ 22 (by rfl) 5 (.int .u8 0) 1 1 Tryd.underlying22 (by kernel_rfl) rfl (by decide) w.heap.size (.slice ad5 (0 + k) cap5) (0 + k) ([] ++ xs) (by rfl) hown5 _ _ ys (by rfl) hry5 (bytes_one hy1) (by omega) (by decide) (by omega) ?_
        intro ad6 cap6 w6 hown6 hgrow6 hat6
        refine hK _ _ ?_; clear hK K
        have hmV6 := hmV5.grown hgrow6 (fun k hk => (hown5.lt k hk).1)
        have hcV6 := hcV5.grown hgrow6 (fun k hk => by have := (hown5.lt k hk).1; omega)
        have HB6 := BR.of_owns hown6 (fun u hu => by rcases List.mem_append.1 hu with h | h; exact hx1 u (by simpa using h); exact hy1 u h)
        have had6 := owns_ad hown6
        simp only [Nat.zero_add] at HB6
        clear hown5 hown6 hgrow6 hat6 hry5
        refine wpAny_take (i := 10) (v := ?_) rfl (by kernel_rfl) (by kernel_rfl) (by kernel_rfl) (fun _ _ _ h => h) (Or.inl ⟨by rfl, ?_⟩) ?_; rotate_left; focus (intro w; go_simp; try with_reducible rfl)
        refine wpAny_done (by kernel_rfl) ?_ _
        go_wp2_with fail
        go_roundw
        case rel => exact ⟨_, _, _, m', rfl, by go_num, by omega, HB6, fun _ => had6, hcV6, hmV6⟩
        case measure => simp [intOf]
      · subst h
        have hkc : k ≤ cap := by omega
        have hk1 : k ≤ len := by omega
        have hk4 : (k : Int) ≤ len := by omega
        have hck : ¬ cap = k := by omega
        obtain ⟨xs, hx1, hx2, hx3⟩ := HB3.window 0 k cap (by omega) (by omega) HB3.2.1 (some ⟨blk, 0, none⟩) (fun _ => rfl)
        obtain ⟨ys, hy1, hy2, hy3⟩ := HB3.window k (len - k) (cap - k) (by omega) (by omega) (by unfold maxLen; omega) (some ⟨blk, k, none⟩) (fun h => rfl)
        go_wp2_with fail
        refine wp_region_any (by kernel_rfl) ?_
        change wpAny _ _ _ _ _ _ _ (World.drew _)
        refine wpAny_take (i := 1) (v := ?_) rfl (by kernel_rfl) (by kernel_rfl) (by kernel_rfl) (fun _ _ _ h => h) (Or.inl ⟨by rfl, ?_⟩) ?_; rotate_left; focus (intro w; go_simp; try with_reducible rfl)
        refine wpAny_take (i := 2) (v := ?_) rfl (by kernel_rfl) (by kernel_rfl) (by kernel_rfl) (fun _ _ _ h => h) (Or.inl ⟨by rfl, ?_⟩) ?_; rotate_left; focus (intro w; go_simp; try with_reducible rfl)
        refine wpAny_take (i := 3) (v := ?_) rfl (by kernel_rfl) (by kernel_rfl) (by kernel_rfl) (fun _ _ _ h => h) (Or.inl ⟨by rfl, ?_⟩) ?_; rotate_left; focus (intro w; go_simp; try with_reducible rfl)
        refine wpAny_take (i := 5) (v := ?_) rfl (by kernel_rfl) (by kernel_rfl) (by kernel_rfl) (fun _ _ _ h => h) (Or.inl ⟨by rfl, ?_⟩) ?_; rotate_left; focus (intro w; go_simp; try with_reducible rfl)
        refine wpAny_take (i := 6) (v := ?_) rfl (by kernel_rfl) (by kernel_rfl) (by kernel_rfl) (fun _ _ _ h => h) (Or.inl ⟨by rfl, ?_⟩) ?_; rotate_left; focus (intro w; go_simp; try with_reducible rfl)
        refine wpAny_take (i := 7) (v := ?_) rfl (by kernel_rfl) (by kernel_rfl) (by kernel_rfl) (fun _ _ _ h => h) (Or.inl ⟨by rfl, ?_⟩) ?_; rotate_left; focus (intro w; go_simp; try with_reducible rfl)
        refine wpAny_take (i := 8) (v := ?_) rfl (by kernel_rfl) (by kernel_rfl) (by kernel_rfl) (fun _ _ _ h => h) (Or.inl ⟨by rfl, ?_⟩) ?_; rotate_left; focus (intro w; go_simp; try with_reducible rfl)
        refine wpAny_take (i := 13) (v := ?_) rfl (by kernel_rfl) (by kernel_rfl) (by kernel_rfl) (fun _ _ _ h => h) (Or.inl ⟨by rfl, ?_⟩) ?_; rotate_left; focus (intro w; go_simp; try with_reducible rfl)
        refine wpAny_take (i := 14) (v := ?_) rfl (by kernel_rfl) (by kernel_rfl) (by kernel_rfl) (fun _ _ _ h => h) (Or.inl ⟨by rfl, ?_⟩) ?_; rotate_left; focus (intro w; go_simp; try with_reducible rfl)
        refine wpAny_take (i := 15) (v := ?_) rfl (by kernel_rfl) (by kernel_rfl) (by kernel_rfl) (fun _ _ _ h => h) (Or.inl ⟨by rfl, ?_⟩) ?_; rotate_left; focus (intro w; go_simp; try with_reducible rfl)
        refine wpAny_ready (rs := [0]) (by kernel_rfl) (by simp) ?_; refine AllReady.cons rfl (fun K hK => ?_) AllReady.nil; go_simp; refine hK _ _ ?_; clear hK K
        have hV : ((w3.alloc (.cells #[] 5)).drew).ownsRow w.heap.size 5 1 (.slice (some ⟨w3.heap.size, 0, none⟩) 0 0) 0 [] := World.ownsRow_made w3 #[] 0 hs3 (Nat.zero_le _) rfl
        have hrx : Reads ((w3.alloc (.cells #[] 5)).drew) (.slice (some ⟨blk, 0, none⟩) k cap) k 1 xs := (hx3.alloc _).new (Below.refl _ _).drew
        have hry : Reads ((w3.alloc (.cells #[] 5)).drew) (.slice (some ⟨blk, k, none⟩) (len - k) (cap - k)) (len - k) 1 ys := (hy3.alloc _).new (Below.refl _ _).drew
        have hmV : Moves g w ((w3.alloc (.cells #[] 5)).drew) := (hmw.alloc _).drew
        have hcV : Cur ((w3.alloc (.cells #[] 5)).drew) g B := (hc3.alloc _).drew
        have hsV : ((w3.alloc (.cells #[] 5)).drew).heap.size = w3.heap.size + 1 := by show (w3.alloc _).heap.size = _; simp
        refine wpAny_ready (rs := [4]) (by kernel_rfl) (by simp) ?_
        refine AllReady.cons rfl (fun K hK => ?_) AllReady.nil; refine step_app _ (by rfl) _ _ 22 (by rfl) 5 (.int .u8 0) 1 1 Tryd.underlying22 (by kernel_rfl) rfl (by decide) w.heap.size (.slice (some ⟨w3.heap.size, 0, none⟩) 0 0) 0 [] (by rfl) hV (.slice (some ⟨blk, 0, none⟩) k cap) k xs (by rfl) hrx (bytes_one hx1) (by omega) (by decide) (by omega) ?_
        intro ad5 cap5 w5 hown5 hgrow5 hat5
        refine hK _ _ ?_; clear hK K
        have hmV5 := hmV.grown hgrow5 (fun k hk => (hV.lt k hk).1)
        have hcV5 := hcV.grown hgrow5 (fun k hk => by have := (hV.lt k hk).1; omega)
        have hs5 := hgrow5.size
        have hry5 := hry.kept hgrow5.size (fun q e hq => hgrow5.block q hq (fun e2 => by
          have hqe : q = blk := by simpa [Value.ownBlock] using e.symm
          have hq3 : q = w3.heap.size := by simpa [Value.ownBlock] using e2
          omega))
        have hnb5 : (Value.slice ad5 (0 + k) cap5).ownBlock ≠ some blk := by
          intro e
          rcases hat5 with h | h
          · rw [h] at e; have : w3.heap.size = blk := by simpa [Value.ownBlock] using e
            omega
          · rw [h] at e; have : ((w3.alloc (.cells #[] 5)).drew).heap.size = blk := by simpa using e
            omega
        clear hry hrx hV hmV hcV hgrow5 hat5 hx3 hy3
        refine wpAny_ready (rs := [9]) (by kernel_rfl) (by simp) ?_
        refine AllReady.cons rfl (fun K hK => ?_) AllReady.nil
        go_simp
        refine (below1 g B _ _ hcV5 (by omega)).mono ?_; rintro e w6 ⟨j, j0, j1, j2, rfl, hc6, hm6⟩
        obtain ⟨j, rfl⟩ : ∃ j' : Nat, j = j' := ⟨j.toNat, by omega⟩
        have j3 : (j : Int) < sg.size := j1 (by omega)
        have j4 : j < sg.size := by omega
        refine hK _ _ ?_; clear hK K
        have hown6 := ownsRow_moves hown5 hm6 hgw
        simp only [Nat.zero_add, List.nil_append] at hown6 hnb5
        have hmV6 := hmV5.trans hm6
        have hs6 := hm6.size
        have hry6 := hry5.kept hm6.size (fun q e hq => hm6.block q hq (by
          have hqe : q = blk := by simpa [Value.ownBlock] using e.symm
          omega))
        clear hry5 hown5 hmV5 hcV5 hm6
        refine wpAny_take (i := 10) (v := ?_) rfl (by kernel_rfl) (by kernel_rfl) (by kernel_rfl) (fun _ _ _ h => h) (Or.inl ⟨by rfl, ?_⟩) ?_; rotate_left; focus (intro w; go_simp; try with_reducible rfl)
        refine wpAny_ready (rs := [11]) (by kernel_rfl) (by simp) ?_; refine AllReady.cons rfl (fun K hK => ?_) AllReady.nil; go_simp; refine hK _ _ ?_; clear hK K
        have hby : ByteVal (.int .u8 (sg[j].toNat : Int)) := ⟨_, rfl, by omega, by have := sg[j].toNat_lt; omega⟩
        have hown7 := hown6.alloc (.cells #[.int .u8 (sg[j].toNat : Int)] 5)
        have hry7 := hry6.alloc (.cells #[.int .u8 (sg[j].toNat : Int)] 5)
        have hm7 := hmV6.alloc (.cells #[.int .u8 (sg[j].toNat : Int)] 5)
        have hc7 := hc6.alloc (.cells #[.int .u8 (sg[j].toNat : Int)] 5)
        have hs7 : w.heap.size ≤ (w6.alloc (.cells #[.int .u8 (sg[j].toNat : Int)] 5)).heap.size := hm7.size
        have hr1 : Reads (w6.alloc (.cells #[.int .u8 (sg[j].toNat : Int)] 5)) (.slice (some ⟨w6.heap.size, 0, none⟩) 1 1) 1 1 [.int .u8 (sg[j].toNat : Int)] :=
          ⟨rfl, _, _, rfl, Nat.le_refl _, by unfold maxLen; omega, fun _ => ⟨_, _, rfl, by simp, fun i u hu => by
            match i, hu with
            | 0, hu => simp at hu; subst hu; simp⟩⟩
        clear hown6 hry6 hmV6 hc6
        refine wpAny_ready (rs := [12]) (by kernel_rfl) (by simp) ?_
        refine AllReady.cons rfl (fun K hK => ?_) AllReady.nil; refine step_app _ (by rfl) _ _ 22 (by rfl) 5 (.int .u8 0) 1 1 Tryd.underlying22 (by kernel_rfl) rfl (by decide) w.heap.size _ _ _ (by rfl) hown7 _ _ _ (by rfl) hr1 (by intro u hu; simp at hu; subst hu; rfl) (by omega) (by decide) (by omega) ?_
        intro ad8 cap8 w8 hown8 hgrow8 hat8
        refine hK _ _ ?_; clear hK K
        have hm8 := hm7.grown hgrow8 (fun k hk => (hown7.lt k hk).1)
        have hc8 := hc7.grown hgrow8 (fun k hk => by have := (hown7.lt k hk).1; omega)
        have hs8 := hm8.size
        have hry8 := hry7.kept hgrow8.size (fun q e hq => hgrow8.block q hq (fun e2 => by
          have hqe : q = blk := by simpa [Value.ownBlock] using e.symm
          subst hqe
          exact hnb5 e2.symm))
        clear hry7 hgrow8 hat8 hm7 hc7 hr1
        refine wpAny_ready (rs := [16]) (by kernel_rfl) (by simp) ?_
        refine AllReady.cons rfl (fun K hK => ?_) AllReady.nil; refine step_app _ (by rfl) _ _ 22 (by rfl) 5 (.int .u8 0) 1 1 Tryd.underlying22 (by kernel_rfl) rfl (by decide) w.heap.size _ _ _ (by rfl) hown8 _ _ _ (by rfl) hry8 (bytes_one hy1) (by omega) (by decide) (by omega) ?_
        intro ad9 cap9 w9 hown9 hgrow9 hat9
        refine hK _ _ ?_; clear hK K
        have hm9 := hm8.grown hgrow9 (fun k hk => (hown8.lt k hk).1)
        have hc9 := hc8.grown hgrow9 (fun k hk => by have := (hown8.lt k hk).1; omega)
        have HB9 := BR.of_owns hown9 (fun u hu => by
          rcases List.mem_append.1 hu with h | h
          · rcases List.mem_append.1 h with h | h
            · exact hx1 u (by simpa using h)
            · simp at h; subst h; exact hby
          · exact hy1 u h)
        have had9 := owns_ad hown9
        clear hown7 hown8 hown9 hgrow9 hat9 hry8
        refine wpAny_take (i := 17) (v := ?_) rfl (by kernel_rfl) (by kernel_rfl) (by kernel_rfl) (fun _ _ _ h => h) (Or.inl ⟨by rfl, ?_⟩) ?_; rotate_left; focus (intro w; go_simp; try with_reducible rfl)
        refine wpAny_done (by kernel_rfl) ?_ _
        go_wp2_with fail
        go_roundw
        case rel => exact ⟨_, _, _, m', rfl, by go_num, by omega, HB9, fun _ => had9, hc9, hm9⟩
        case measure => simp [intOf]
    · obtain ⟨t, ht, hcv2⟩ := hbr.string had
      by_cases hm0' : 0 < m
      · have hl0 : ¬ (0 : Int) < len := by omega
        have hl1 : ¬ 0 < len := by omega
        go_wp2_with fail
        go_ret
        exact ⟨t, by omega, rfl, hcr, hmr⟩
      · obtain rfl : m = 0 := by omega
        go_wp2_with fail
        go_ret
        exact ⟨t, by omega, rfl, hcr, hmr⟩
end Go.Proofs.YtelcnojmfkoboaaDoor
