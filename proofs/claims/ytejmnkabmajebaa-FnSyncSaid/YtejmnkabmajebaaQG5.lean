/- Several small texts of one level, one behind the other. -/
import Derived.Test.YtejmnkabmajebaaQG4
import Derived.Handy
import Derived.RangeFuncNested
import Derived.RangeFuncBound
import Derived.RangeFuncCalls
import Derived.RangeFuncLeaves
import Derived.Shelf.Abstract
import Derived.Shelf.RegionOpen
import Derived.WalkKit
import Derived.OwnWalkIn
import Derived.TacticsInMore
import Derived.LoopNIn
import Derived.LoopIn
import Derived.Maps.AppendAt
import Derived.Test.YtejmnkabmajebaaQG2
import Derived.RangeFuncBox
import Derived.Lib.SmallJoins
import Derived.Laws.AppendOwn
import Derived.Laws.IdiomStrings
import Derived.Lib.BufferRead
import Derived.Test.YtejmnkabmajebaaQG3
import Derived.Deep.DeepCutAuto
/- A text that is bent: the walk. -/
namespace Go.Proofs.Ytejmnkabmajebaa
open Go.RowKit
set_option maxRecDepth 100000
set_option linter.unusedSimpArgs false
set_option linter.unusedVariables false
attribute [local go_sem ↓] Go.wp_at_zero Go.wp_at_succ

theorem moves_bytes {g : Nat} {w a : World} (h : Moves g w a) (s : ByteArray) : Moves g w (Lib.bytesWorld a 5 s) :=
  h.trans ⟨rfl, rfl, rfl, by rw [Lib.bytesWorld_size]; omega, fun k hk _ => Lib.bytesWorld_at_old a 5 s k hk⟩

theorem BR.set {w : World} {base n cap blk : Nat} (h : BR w base (some ⟨blk, 0, none⟩) n cap) (k : Nat) (u : Value) (hu : ByteVal u) : BR (w.setCell ⟨blk, k, none⟩ u) base (some ⟨blk, 0, none⟩) n cap := by
  obtain ⟨h1, h2, h3⟩ := h
  refine ⟨h1, h2, fun hn => ?_⟩
  obtain ⟨b', e, hb, hl, hc⟩ := h3 hn
  simp only [Option.some.injEq, Addr.mk.injEq, and_true] at e
  subst e
  refine ⟨blk, rfl, hb, by simpa using hl, fun j hj => ?_⟩
  obtain ⟨⟨v, hv, hcv⟩, hf⟩ := hc j hj
  refine ⟨?_, by rw [World.frozen?_setCell]; exact hf⟩
  by_cases hjk : k = j
  · subst hjk
    exact ⟨u, hu, World.cell?_setCell_same' _ _ _ (by rw [hcv]; rfl)⟩
  · refine ⟨v, hv, ?_⟩
    exact (World.cell?_setCell_other _ ⟨blk, k, none⟩ ⟨blk, j, none⟩ _ (by simp [hjk])).trans hcv

theorem owns_ad {w : World} {base : Nat} {e : TypeId} {size n cap : Nat} {ad : Option Addr} {xs : List Value} (h : w.ownsRow base e size (.slice ad n cap) n xs) : ad = none ∨ ∃ b o, ad = some ⟨b, o, none⟩ := by
  rcases h.2 with ⟨h2, _⟩ | ⟨g, cap', cur, e1, _⟩
  · simp only [Value.slice.injEq] at h2; exact .inl h2.1
  · simp only [Value.slice.injEq] at e1; exact .inr ⟨g, 0, e1.1⟩

set_option maxRecDepth 100000 in
set_option maxHeartbeats 8000000 in
theorem bend1 (g B : Nat) (s sg : ByteArray) (w : World) (hc : Cur w g B) (hs : s.size ≤ 1000000) (hg0 : 0 < sg.size) (hg1 : sg.size ≤ 1000) :
    Calls Try.prog 43 #[.pointer (some ⟨g, 0, none⟩), .string s, .string sg] w fun e w' => ∃ t : ByteArray, t.size ≤ s.size + 2 ∧ e = .returned (.string t) ∧ Cur w' g B ∧ Moves g w w' := by
  have hgw := hc.lt
  have hcv := Lib.run_convert_string_bytes (P := Try.prog) w 9 22 5 s Try.underlying9 Try.underlying22 Try.underlying5
  have hcap := grownCap_ge w s.size 0 5
  have hcap2 := grownCap_le_maxLen w s.size 0 5 (by unfold maxLen; omega)
  have HBR := br_new w s hs hcap2 hcap
  have hm0 : Moves g w (Lib.bytesWorld w 5 s) := moves_bytes (Moves.refl g w) s
  have hc0 : Cur (Lib.bytesWorld w 5 s) g B := hc.kept ⟨rfl, rfl, rfl, by rw [Lib.bytesWorld_size]; omega, fun k hk => Lib.bytesWorld_at_old w 5 s k (by omega)⟩
  generalize Lib.bytesWorld w 5 s = w0 at hcv HBR hm0 hc0
  generalize grownCap w s.size 0 5 = cap0 at hcv HBR hcap hcap2
  unfold maxLen at hcap2
  go_enter Try.func43, Try.ntmps43
  go_wp2_with fail
  refine (below1 g B 3 _ hc0 (by omega)).mono ?_; rintro e w1 ⟨x, x0, x1, x2, rfl, hc1, hm1⟩
  have x3 := x1 (by omega)
  have HB1 := HBR.moves hm1 hgw
  have hw1 := hm0.trans hm1
  go_wp2_with fail
  go_loopw [7, 8] (fun v n wr => ∃ (ad : Option Addr) (len cap m : Nat), v = .slice ad len cap ∧ n = .int .i64 m ∧ len + m ≤ s.size + 2 ∧ BR wr w.heap.size ad len cap ∧ (len = 0 → ad = none ∨ ∃ b o, ad = some ⟨b, o, none⟩) ∧ Cur wr g B ∧ Moves g w wr) (fun _ n _ => (intOf n).toNat)
  case atStart =>
    obtain ⟨m, rfl⟩ : ∃ m : Nat, x = m := ⟨x.toNat, by omega⟩
    exact ⟨_, _, _, m, rfl, rfl, by omega, HB1, fun _ => .inr ⟨_, _, rfl⟩, hc1, hw1⟩
  case round =>
    obtain ⟨ad, len, cap, m, rfl, rfl, hlm, hbr, had, hcr, hmr⟩ := hrel
    have hsr := hmr.size
    by_cases hgo : 0 < m ∧ 0 < len
    · obtain ⟨hm0', hlen⟩ := hgo
      obtain ⟨m', rfl⟩ : ∃ m', m = m' + 1 := ⟨m - 1, by omega⟩
      have hlen' : (0 : Int) < len := by omega
      obtain ⟨hlc, hcm, hbr3⟩ := hbr
      obtain ⟨blk, rfl, hblk, hblt, hcells⟩ := hbr3 hlen
      have HBR2 : BR wr w.heap.size (some ⟨blk, 0, none⟩) len cap := ⟨hlc, hcm, fun _ => ⟨blk, rfl, hblk, hblt, hcells⟩⟩
      unfold maxLen at hcm
      go_wp2_with fail
      refine (below1 g B _ _ hcr (by omega)).mono ?_; rintro e w2 ⟨k, k0, k1, k2, rfl, hc2, hm2⟩
      obtain ⟨k, rfl⟩ : ∃ k' : Nat, k = k' := ⟨k.toNat, by omega⟩
      have k3 : (k : Int) < len := k1 hlen'
      go_wp2_with fail
      refine (below1 g B 4 _ hc2 (by omega)).mono ?_; rintro e w3 ⟨y, y0, y1, y2, rfl, hc3, hm3⟩
      have y3 := y1 (by omega)
      have HB3 := (HBR2.moves hm2 (by omega)).moves hm3 (by omega)
      have hmw : Moves g w w3 := (hmr.trans hm2).trans hm3
      have hs3 := hmw.size
      have hblk3 : blk < w3.heap.size := by have := hm2.size; have := hm3.size; omega
      clear hcells hbr3 HBR2 hm2 hm3 hc2 hmr hcr
      obtain h | h | h | h : y = 0 ∨ y = 1 ∨ y = 2 ∨ y = 3 := by omega
      · subst h
        go_wp2_with fail
        refine (below1 g B _ _ hc3 (by omega)).mono ?_; rintro e w4 ⟨j, j0, j1, j2, rfl, hc4, hm4⟩
        obtain ⟨j, rfl⟩ : ∃ j' : Nat, j = j' := ⟨j.toNat, by omega⟩
        have j3 : (j : Int) < sg.size := j1 (by omega)
        have j4 : j < sg.size := by omega
        have HB4 := HB3.moves hm4 (by omega)
        obtain ⟨blk', e, _, hl4, hcc⟩ := HB4.2.2 hlen
        simp only [Option.some.injEq, Addr.mk.injEq, and_true] at e
        subst e
        obtain ⟨⟨v, hv, hcv4⟩, hf4⟩ := hcc k (by omega)
        have hby : ByteVal (.int .u8 (sg[j].toNat : Int)) := ⟨_, rfl, by omega, by have := sg[j].toNat_lt; omega⟩
        have HB5 := HB4.set k _ hby
        have hm5 : Moves g w (w4.setCell ⟨blk, k, none⟩ (.int .u8 (sg[j].toNat : Int))) := (hmw.trans hm4).setNew _ hblk _
        have hc5 := hc4.set ⟨blk, k, none⟩ (.int .u8 (sg[j].toNat : Int)) (by simp; omega)
        clear HB4 hcc hv
        go_wp2_with fail
        go_roundw
        case rel => exact ⟨_, _, _, m', rfl, by go_num, by omega, HB5, fun _ => .inr ⟨_, _, rfl⟩, hc5, hm5⟩
        case measure => simp [intOf]
      · subst h
        go_wp2_with fail
        go_roundw
        case rel => exact ⟨_, _, _, m', rfl, by go_num, by omega, HB3.cut k (by omega), fun _ => .inr ⟨_, _, rfl⟩, hc3, hmw⟩
        case measure => simp [intOf]
      · subst h
        have hkc : k ≤ cap := by omega
        have hk1 : k + 1 ≤ len := by omega
        have hk2 : ((k : Int) + 1).toNat = k + 1 := by omega
        have hk4 : (k : Int) + 1 ≤ len := by omega
        have hk5 : (0 : Int) ≤ (k : Int) + 1 := by omega
        have hwr : IntKind.i64.wrap ((k : Int) + 1) = (k : Int) + 1 := by rw [IntKind.wrap_i64]; omega
        obtain ⟨xs, hx1, hx2, hx3⟩ := HB3.window 0 k cap (by omega) (by omega) HB3.2.1 (some ⟨blk, 0, none⟩) (fun _ => rfl)
        obtain ⟨ys, hy1, hy2, hy3⟩ := HB3.window (k + 1) (len - (k + 1)) (cap - (k + 1)) (by omega) (by omega) (by unfold maxLen; omega) (if cap = k + 1 then some ⟨blk, 0, none⟩ else some ⟨blk, k + 1, none⟩) (fun h => if_neg (by omega))
        go_wp2_with fail
        refine wp_region_any (by kernel_rfl) ?_
        change wpAny _ _ _ _ _ _ _ (World.drew _)
        refine wpAny_take (i := 1) (v := ?_) rfl (by kernel_rfl) (by kernel_rfl) (by kernel_rfl) (fun _ _ _ h => h) (Or.inl ⟨by rfl, ?_⟩) ?_; rotate_left; focus (intro w; go_simp; try with_reducible rfl)
        refine wpAny_take (i := 2) (v := ?_) rfl (by kernel_rfl) (by kernel_rfl) (by kernel_rfl) (fun _ _ _ h => h) (Or.inl ⟨by rfl, ?_⟩) ?_; rotate_left; focus (intro w; go_simp; try with_reducible rfl)
        refine wpAny_take (i := 3) (v := ?_) rfl (by kernel_rfl) (by kernel_rfl) (by kernel_rfl) (fun _ _ _ h => h) (Or.inl ⟨by rfl, ?_⟩) ?_; rotate_left; focus (intro w; go_simp; try with_reducible rfl)
        refine wpAny_take (i := 5) (v := ?_) rfl (by kernel_rfl) (by kernel_rfl) (by kernel_rfl) (fun _ _ _ h => h) (Or.inl ⟨by rfl, ?_⟩) ?_; rotate_left; focus (intro w; go_simp; try with_reducible rfl)
        refine wpAny_take (i := 6) (v := ?_) rfl (by kernel_rfl) (by kernel_rfl) (by kernel_rfl) (fun _ _ _ h => h) (Or.inl ⟨by rfl, ?_⟩) ?_; rotate_left; focus (intro w; go_simp; try with_reducible rfl)
        refine wpAny_take (i := 7) (v := ?_) rfl (by kernel_rfl) (by kernel_rfl) (by kernel_rfl) (fun _ _ _ h => h) (Or.inl ⟨by rfl, ?_⟩) ?_; rotate_left; focus (intro w; go_simp; try with_reducible rfl)
        refine wpAny_take (i := 8) (v := ?_) rfl (by kernel_rfl) (by kernel_rfl) (by kernel_rfl) (fun _ _ _ h => h) (Or.inl ⟨by rfl, ?_⟩) ?_; rotate_left; focus (intro w; go_simp; try with_reducible rfl)
        refine wpAny_ready (rs := [0]) (by kernel_rfl) (by simp) ?_; refine AllReady.cons rfl (fun K hK => ?_) AllReady.nil; go_simp; refine hK _ _ ?_; clear hK K
        have hV : ((w3.alloc (.cells #[] 5)).drew).ownsRow w.heap.size 5 1 (.slice (some ⟨w3.heap.size, 0, none⟩) 0 0) 0 [] := World.ownsRow_made w3 #[] 0 hs3 (Nat.zero_le _) rfl
        have hrx : Reads ((w3.alloc (.cells #[] 5)).drew) (.slice (some ⟨blk, 0, none⟩) k cap) k 1 xs := (hx3.alloc _).new (Below.refl _ _).drew
        have hry : Reads ((w3.alloc (.cells #[] 5)).drew) (.slice (if cap = k + 1 then some ⟨blk, 0, none⟩ else some ⟨blk, k + 1, none⟩) (len - (k + 1)) (cap - (k + 1))) (len - (k + 1)) 1 ys := (hy3.alloc _).new (Below.refl _ _).drew
        have hmV : Moves g w ((w3.alloc (.cells #[] 5)).drew) := (hmw.alloc _).drew
        have hcV : Cur ((w3.alloc (.cells #[] 5)).drew) g B := (hc3.alloc _).drew
        have hsV : ((w3.alloc (.cells #[] 5)).drew).heap.size = w3.heap.size + 1 := by show (w3.alloc _).heap.size = _; simp
        refine wpAny_ready (rs := [4]) (by kernel_rfl) (by simp) ?_
        refine AllReady.cons rfl (fun K hK => ?_) AllReady.nil
        refine step_app _ (by rfl) _ _ 22 (by rfl) 5 (.int .u8 0) 1 1 Try.underlying22 (by kernel_rfl) rfl (by decide) w.heap.size (.slice (some ⟨w3.heap.size, 0, none⟩) 0 0) 0 [] (by rfl) hV (.slice (some ⟨blk, 0, none⟩) k cap) k xs (by rfl) hrx (bytes_one hx1) (by omega) (by decide) (by omega) ?_
        intro ad5 cap5 w5 hown5 hgrow5 hat5
        refine hK _ _ ?_; clear hK K
        have hmV5 := hmV.grown hgrow5 (fun k hk => (hV.lt k hk).1)
        have hcV5 := hcV.grown hgrow5 (fun k hk => by have := (hV.lt k hk).1; omega)
        have hs5 := hmV5.size
        have hry5 := hry.kept hgrow5.size (fun q e hq => hgrow5.block q hq (fun e2 => by
          have hqe : q = blk := by
            by_cases hce : cap = k + 1
            · rw [if_pos hce] at e; simpa [Value.ownBlock] using e.symm
            · rw [if_neg hce] at e; simpa [Value.ownBlock] using e.symm
          have hq3 : q = w3.heap.size := by simpa [Value.ownBlock] using e2
          omega))
        clear hry hrx hV hmV hcV hgrow5 hat5 hx3 hy3
        refine wpAny_ready (rs := [9]) (by kernel_rfl) (by simp) ?_
        refine AllReady.cons rfl (fun K hK => ?_) AllReady.nil
        refine step_app _ (by rfl) _ _ 22 (by rfl) 5 (.int .u8 0) 1 1 Try.underlying22 (by kernel_rfl) rfl (by decide) w.heap.size (.slice ad5 (0 + k) cap5) (0 + k) ([] ++ xs) (by rfl) hown5 _ _ ys (by rfl) hry5 (bytes_one hy1) (by omega) (by decide) (by omega) ?_
        intro ad6 cap6 w6 hown6 hgrow6 hat6
        refine hK _ _ ?_; clear hK K
        have hmV6 := hmV5.grown hgrow6 (fun k hk => (hown5.lt k hk).1)
        have hcV6 := hcV5.grown hgrow6 (fun k hk => by have := (hown5.lt k hk).1; omega)
        have HB6 := BR.of_owns hown6 (fun u hu => by rcases List.mem_append.1 hu with h | h; exact hx1 u (by simpa using h); exact hy1 u h)
        have had6 := owns_ad hown6
        simp only [Nat.zero_add] at HB6
        clear hown5 hown6 hgrow6 hat6 hry5
        refine wpAny_take (i := 10) (v := ?_) rfl (by kernel_rfl) (by kernel_rfl) (by kernel_rfl) (fun _ _ _ h => h) (Or.inl ⟨by rfl, ?_⟩) ?_; rotate_left; focus (intro w; go_simp; try with_reducible rfl)
        refine wpAny_done (by kernel_rfl) ?_ _
        go_wp2_with fail
        go_roundw
        case rel => exact ⟨_, _, _, m', rfl, by go_num, by omega, HB6, fun _ => had6, hcV6, hmV6⟩
        case measure => simp [intOf]
      · subst h
        have hkc : k ≤ cap := by omega
        have hk1 : k ≤ len := by omega
        have hk4 : (k : Int) ≤ len := by omega
        have hck : ¬ cap = k := by omega
        obtain ⟨xs, hx1, hx2, hx3⟩ := HB3.window 0 k cap (by omega) (by omega) HB3.2.1 (some ⟨blk, 0, none⟩) (fun _ => rfl)
        obtain ⟨ys, hy1, hy2, hy3⟩ := HB3.window k (len - k) (cap - k) (by omega) (by omega) (by unfold maxLen; omega) (some ⟨blk, k, none⟩) (fun h => rfl)
        go_wp2_with fail
        refine wp_region_any (by kernel_rfl) ?_
        change wpAny _ _ _ _ _ _ _ (World.drew _)
        refine wpAny_take (i := 1) (v := ?_) rfl (by kernel_rfl) (by kernel_rfl) (by kernel_rfl) (fun _ _ _ h => h) (Or.inl ⟨by rfl, ?_⟩) ?_; rotate_left; focus (intro w; go_simp; try with_reducible rfl)
        refine wpAny_take (i := 2) (v := ?_) rfl (by kernel_rfl) (by kernel_rfl) (by kernel_rfl) (fun _ _ _ h => h) (Or.inl ⟨by rfl, ?_⟩) ?_; rotate_left; focus (intro w; go_simp; try with_reducible rfl)
        refine wpAny_take (i := 3) (v := ?_) rfl (by kernel_rfl) (by kernel_rfl) (by kernel_rfl) (fun _ _ _ h => h) (Or.inl ⟨by rfl, ?_⟩) ?_; rotate_left; focus (intro w; go_simp; try with_reducible rfl)
        refine wpAny_take (i := 5) (v := ?_) rfl (by kernel_rfl) (by kernel_rfl) (by kernel_rfl) (fun _ _ _ h => h) (Or.inl ⟨by rfl, ?_⟩) ?_; rotate_left; focus (intro w; go_simp; try with_reducible rfl)
        refine wpAny_take (i := 6) (v := ?_) rfl (by kernel_rfl) (by kernel_rfl) (by kernel_rfl) (fun _ _ _ h => h) (Or.inl ⟨by rfl, ?_⟩) ?_; rotate_left; focus (intro w; go_simp; try with_reducible rfl)
        refine wpAny_take (i := 7) (v := ?_) rfl (by kernel_rfl) (by kernel_rfl) (by kernel_rfl) (fun _ _ _ h => h) (Or.inl ⟨by rfl, ?_⟩) ?_; rotate_left; focus (intro w; go_simp; try with_reducible rfl)
        refine wpAny_take (i := 8) (v := ?_) rfl (by kernel_rfl) (by kernel_rfl) (by kernel_rfl) (fun _ _ _ h => h) (Or.inl ⟨by rfl, ?_⟩) ?_; rotate_left; focus (intro w; go_simp; try with_reducible rfl)
        refine wpAny_take (i := 13) (v := ?_) rfl (by kernel_rfl) (by kernel_rfl) (by kernel_rfl) (fun _ _ _ h => h) (Or.inl ⟨by rfl, ?_⟩) ?_; rotate_left; focus (intro w; go_simp; try with_reducible rfl)
        refine wpAny_take (i := 14) (v := ?_) rfl (by kernel_rfl) (by kernel_rfl) (by kernel_rfl) (fun _ _ _ h => h) (Or.inl ⟨by rfl, ?_⟩) ?_; rotate_left; focus (intro w; go_simp; try with_reducible rfl)
        refine wpAny_take (i := 15) (v := ?_) rfl (by kernel_rfl) (by kernel_rfl) (by kernel_rfl) (fun _ _ _ h => h) (Or.inl ⟨by rfl, ?_⟩) ?_; rotate_left; focus (intro w; go_simp; try with_reducible rfl)
        refine wpAny_ready (rs := [0]) (by kernel_rfl) (by simp) ?_; refine AllReady.cons rfl (fun K hK => ?_) AllReady.nil; go_simp; refine hK _ _ ?_; clear hK K
        have hV : ((w3.alloc (.cells #[] 5)).drew).ownsRow w.heap.size 5 1 (.slice (some ⟨w3.heap.size, 0, none⟩) 0 0) 0 [] := World.ownsRow_made w3 #[] 0 hs3 (Nat.zero_le _) rfl
        have hrx : Reads ((w3.alloc (.cells #[] 5)).drew) (.slice (some ⟨blk, 0, none⟩) k cap) k 1 xs := (hx3.alloc _).new (Below.refl _ _).drew
        have hry : Reads ((w3.alloc (.cells #[] 5)).drew) (.slice (some ⟨blk, k, none⟩) (len - k) (cap - k)) (len - k) 1 ys := (hy3.alloc _).new (Below.refl _ _).drew
        have hmV : Moves g w ((w3.alloc (.cells #[] 5)).drew) := (hmw.alloc _).drew
        have hcV : Cur ((w3.alloc (.cells #[] 5)).drew) g B := (hc3.alloc _).drew
        have hsV : ((w3.alloc (.cells #[] 5)).drew).heap.size = w3.heap.size + 1 := by show (w3.alloc _).heap.size = _; simp
        refine wpAny_ready (rs := [4]) (by kernel_rfl) (by simp) ?_
        refine AllReady.cons rfl (fun K hK => ?_) AllReady.nil; refine step_app _ (by rfl) _ _ 22 (by rfl) 5 (.int .u8 0) 1 1 Try.underlying22 (by kernel_rfl) rfl (by decide) w.heap.size (.slice (some ⟨w3.heap.size, 0, none⟩) 0 0) 0 [] (by rfl) hV (.slice (some ⟨blk, 0, none⟩) k cap) k xs (by rfl) hrx (bytes_one hx1) (by omega) (by decide) (by omega) ?_
        intro ad5 cap5 w5 hown5 hgrow5 hat5
        refine hK _ _ ?_; clear hK K
        have hmV5 := hmV.grown hgrow5 (fun k hk => (hV.lt k hk).1)
        have hcV5 := hcV.grown hgrow5 (fun k hk => by have := (hV.lt k hk).1; omega)
        have hs5 := hgrow5.size
        have hry5 := hry.kept hgrow5.size (fun q e hq => hgrow5.block q hq (fun e2 => by
          have hqe : q = blk := by simpa [Value.ownBlock] using e.symm
          have hq3 : q = w3.heap.size := by simpa [Value.ownBlock] using e2
          omega))
        have hnb5 : (Value.slice ad5 (0 + k) cap5).ownBlock ≠ some blk := by
          intro e
          rcases hat5 with h | h
          · rw [h] at e; have : w3.heap.size = blk := by simpa [Value.ownBlock] using e
            omega
          · rw [h] at e; have : ((w3.alloc (.cells #[] 5)).drew).heap.size = blk := by simpa using e
            omega
        clear hry hrx hV hmV hcV hgrow5 hat5 hx3 hy3
        refine wpAny_ready (rs := [9]) (by kernel_rfl) (by simp) ?_
        refine AllReady.cons rfl (fun K hK => ?_) AllReady.nil
        go_simp
        refine (below1 g B _ _ hcV5 (by omega)).mono ?_; rintro e w6 ⟨j, j0, j1, j2, rfl, hc6, hm6⟩
        obtain ⟨j, rfl⟩ : ∃ j' : Nat, j = j' := ⟨j.toNat, by omega⟩
        have j3 : (j : Int) < sg.size := j1 (by omega)
        have j4 : j < sg.size := by omega
        refine hK _ _ ?_; clear hK K
        have hown6 := ownsRow_moves hown5 hm6 hgw
        simp only [Nat.zero_add, List.nil_append] at hown6 hnb5
        have hmV6 := hmV5.trans hm6
        have hs6 := hm6.size
        have hry6 := hry5.kept hm6.size (fun q e hq => hm6.block q hq (by
          have hqe : q = blk := by simpa [Value.ownBlock] using e.symm
          omega))
        clear hry5 hown5 hmV5 hcV5 hm6
        refine wpAny_take (i := 10) (v := ?_) rfl (by kernel_rfl) (by kernel_rfl) (by kernel_rfl) (fun _ _ _ h => h) (Or.inl ⟨by rfl, ?_⟩) ?_; rotate_left; focus (intro w; go_simp; try with_reducible rfl)
        refine wpAny_ready (rs := [11]) (by kernel_rfl) (by simp) ?_; refine AllReady.cons rfl (fun K hK => ?_) AllReady.nil; go_simp; refine hK _ _ ?_; clear hK K
        have hby : ByteVal (.int .u8 (sg[j].toNat : Int)) := ⟨_, rfl, by omega, by have := sg[j].toNat_lt; omega⟩
        have hown7 := hown6.alloc (.cells #[.int .u8 (sg[j].toNat : Int)] 5)
        have hry7 := hry6.alloc (.cells #[.int .u8 (sg[j].toNat : Int)] 5)
        have hm7 := hmV6.alloc (.cells #[.int .u8 (sg[j].toNat : Int)] 5)
        have hc7 := hc6.alloc (.cells #[.int .u8 (sg[j].toNat : Int)] 5)
        have hs7 : w.heap.size ≤ (w6.alloc (.cells #[.int .u8 (sg[j].toNat : Int)] 5)).heap.size := hm7.size
        have hr1 : Reads (w6.alloc (.cells #[.int .u8 (sg[j].toNat : Int)] 5)) (.slice (some ⟨w6.heap.size, 0, none⟩) 1 1) 1 1 [.int .u8 (sg[j].toNat : Int)] :=
          ⟨rfl, _, _, rfl, Nat.le_refl _, by unfold maxLen; omega, fun _ => ⟨_, _, rfl, by simp, fun i u hu => by
            match i, hu with
            | 0, hu => simp at hu; subst hu; simp⟩⟩
        clear hown6 hry6 hmV6 hc6
        refine wpAny_ready (rs := [12]) (by kernel_rfl) (by simp) ?_
        refine AllReady.cons rfl (fun K hK => ?_) AllReady.nil; refine step_app _ (by rfl) _ _ 22 (by rfl) 5 (.int .u8 0) 1 1 Try.underlying22 (by kernel_rfl) rfl (by decide) w.heap.size _ _ _ (by rfl) hown7 _ _ _ (by rfl) hr1 (by intro u hu; simp at hu; subst hu; rfl) (by omega) (by decide) (by omega) ?_
        intro ad8 cap8 w8 hown8 hgrow8 hat8
        refine hK _ _ ?_; clear hK K
        have hm8 := hm7.grown hgrow8 (fun k hk => (hown7.lt k hk).1)
        have hc8 := hc7.grown hgrow8 (fun k hk => by have := (hown7.lt k hk).1; omega)
        have hs8 := hm8.size
        have hry8 := hry7.kept hgrow8.size (fun q e hq => hgrow8.block q hq (fun e2 => by
          have hqe : q = blk := by simpa [Value.ownBlock] using e.symm
          subst hqe
          exact hnb5 e2.symm))
        clear hry7 hgrow8 hat8 hm7 hc7 hr1
        refine wpAny_ready (rs := [16]) (by kernel_rfl) (by simp) ?_
        refine AllReady.cons rfl (fun K hK => ?_) AllReady.nil; refine step_app _ (by rfl) _ _ 22 (by rfl) 5 (.int .u8 0) 1 1 Try.underlying22 (by kernel_rfl) rfl (by decide) w.heap.size _ _ _ (by rfl) hown8 _ _ _ (by rfl) hry8 (bytes_one hy1) (by omega) (by decide) (by omega) ?_
        intro ad9 cap9 w9 hown9 hgrow9 hat9
        refine hK _ _ ?_; clear hK K
        have hm9 := hm8.grown hgrow9 (fun k hk => (hown8.lt k hk).1)
        have hc9 := hc8.grown hgrow9 (fun k hk => by have := (hown8.lt k hk).1; omega)
        have HB9 := BR.of_owns hown9 (fun u hu => by
          rcases List.mem_append.1 hu with h | h
          · rcases List.mem_append.1 h with h | h
            · exact hx1 u (by simpa using h)
            · simp at h; subst h; exact hby
          · exact hy1 u h)
        have had9 := owns_ad hown9
        clear hown7 hown8 hown9 hgrow9 hat9 hry8
        refine wpAny_take (i := 17) (v := ?_) rfl (by kernel_rfl) (by kernel_rfl) (by kernel_rfl) (fun _ _ _ h => h) (Or.inl ⟨by rfl, ?_⟩) ?_; rotate_left; focus (intro w; go_simp; try with_reducible rfl)
        refine wpAny_done (by kernel_rfl) ?_ _
        go_wp2_with fail
        go_roundw
        case rel => exact ⟨_, _, _, m', rfl, by go_num, by omega, HB9, fun _ => had9, hc9, hm9⟩
        case measure => simp [intOf]
    · obtain ⟨t, ht, hcv2⟩ := hbr.string had
      by_cases hm0' : 0 < m
      · have hl0 : ¬ (0 : Int) < len := by omega
        have hl1 : ¬ 0 < len := by omega
        go_wp2_with fail
        go_ret
        exact ⟨t, by omega, rfl, hcr, hmr⟩
      · obtain rfl : m = 0 := by omega
        go_wp2_with fail
        go_ret
        exact ⟨t, by omega, rfl, hcr, hmr⟩
end Go.Proofs.Ytejmnkabmajebaa
/- Plain mathematics of chapter 3: a number that is read from bytes, as the model reads it and by the parts that the program's iterator gives. -/
namespace Go.Proofs.Ytejmnkabmajebaa
open Go.RowKit
set_option maxRecDepth 100000
set_option linter.unusedVariables false

/-- The bytes of a text as numbers. -/
def bys (s : ByteArray) : List Int := s.data.toList.map fun c => (c.toNat : Int)
theorem bys_len (s : ByteArray) : (bys s).length = s.size := by unfold bys; rw [List.length_map, Array.length_toList]; rfl
theorem bys_drop (s : ByteArray) (i : Nat) (h : i < s.size) : (bys s).drop i = (s[i].toNat : Int) :: (bys s).drop (i + 1) := by
  have hl : i < (bys s).length := by rw [bys_len]; exact h
  rw [List.drop_eq_getElem_cons hl]
  congr 1
  simp [bys]; rfl
theorem bys_end (s : ByteArray) (i : Nat) (h : s.size ≤ i) : (bys s).drop i = [] := List.drop_eq_nil_of_le (by rw [bys_len]; exact h)
theorem bys_range (s : ByteArray) : ∀ x ∈ bys s, 0 ≤ x ∧ x ≤ 255 := by
  intro x hx
  simp only [bys, List.mem_map] at hx
  obtain ⟨c, _, rfl⟩ := hx
  have := c.toNat_lt
  omega

/-- The place of byte i is p. -/
def Plc (i : Nat) (p : Int) : Prop := (i = 1 ∧ p = 1) ∨ (i = 2 ∧ p = 128) ∨ (i = 3 ∧ p = 16384) ∨ (i = 4 ∧ p = 2097152) ∨ (i = 5 ∧ p = 268435456) ∨ (i = 6 ∧ p = 34359738368)
theorem Plc.next {i : Nat} {p : Int} (h : Plc i p) (hi : i ≤ 5) : Plc (i + 1) (p * 128) := by unfold Plc at *; omega
theorem Plc.lo {i : Nat} {p : Int} (h : Plc i p) : 1 ≤ i ∧ i ≤ 6 ∧ 1 ≤ p ∧ p ≤ 34359738368 ∧ (i ≤ 5 ↔ p ≤ 268435456) := by unfold Plc at *; omega

/-- As the model reads it: k bytes at most, n so far, the place p, byte i. -/
def rdF : Nat → Int → Int → Nat → List Int → Int × Int
  | 0, _, _, _, _ => (-1, 0)
  | _ + 1, _, _, _, [] => (-1, 0)
  | k + 1, n, p, i, c :: cs => if c < 128 then (if 268435456 < n + c % 128 * p ∨ (1 < i ∧ c = 0) then (-1, 0) else (n + c % 128 * p, (i : Int) + 1)) else rdF k (n + c % 128 * p) (p * 128) (i + 1) cs
/-- What ReadPrefixed answers. -/
def rdV (s : ByteArray) (b : Int) : Int × Int :=
  if h : 0 < s.size then if inB b 1 8 = true then (if (s[0].toNat : Int) % pw b < pw b - 1 then ((s[0].toNat : Int) % pw b, 1) else rdF 5 ((s[0].toNat : Int) % pw b) 1 1 ((bys s).drop 1)) else (-1, 0) else (-1, 0)
theorem rdV_empty {s : ByteArray} {b : Int} (h : s.size = 0) : rdV s b = (-1, 0) := by simp [rdV, h]
theorem rdV_bits {s : ByteArray} {b : Int} (h : inB b 1 8 = false) : rdV s b = (-1, 0) := by unfold rdV; split <;> simp [h]
theorem rdV_small {s : ByteArray} {b : Int} (h : 0 < s.size) (hb : inB b 1 8 = true) (hx : (s[0].toNat : Int) % pw b < pw b - 1) : rdV s b = ((s[0].toNat : Int) % pw b, 1) := by simp [rdV, h, hb, hx]
theorem rdV_more {s : ByteArray} {b : Int} (h : 0 < s.size) (hb : inB b 1 8 = true) (hx : ¬ (s[0].toNat : Int) % pw b < pw b - 1) : rdV s b = rdF 5 ((s[0].toNat : Int) % pw b) 1 1 ((bys s).drop 1) := by
  simp only [rdV, dif_pos h, if_pos hb, if_neg hx]

/-- The parts that the program's iterator gives. -/
def ptF : Nat → Int → List Int → List (Int × Bool)
  | 0, _, _ => []
  | _ + 1, _, [] => []
  | k + 1, p, c :: cs => if c < 128 then [(c % 128 * p, true)] else (c % 128 * p, false) :: ptF k (p * 128) cs
def ptV (s : ByteArray) (b : Int) : List (Int × Bool) :=
  if h : 0 < s.size then (if (s[0].toNat : Int) % pw b < pw b - 1 then [((s[0].toNat : Int) % pw b, true)] else ((s[0].toNat : Int) % pw b, false) :: ptF 5 1 ((bys s).drop 1)) else []
theorem ptF_nil (k : Nat) (p : Int) : ptF k p [] = [] := by cases k <;> rfl
theorem ptF_last {k : Nat} {p c : Int} {cs : List Int} (h : c < 128) : ptF (k + 1) p (c :: cs) = [(c % 128 * p, true)] := by simp [ptF, h]
theorem ptF_more {k : Nat} {p c : Int} {cs : List Int} (h : 128 ≤ c) : ptF (k + 1) p (c :: cs) = (c % 128 * p, false) :: ptF k (p * 128) cs := by simp only [ptF]; rw [if_neg (by omega)]
theorem ptV_empty {s : ByteArray} {b : Int} (h : s.size = 0) : ptV s b = [] := by simp [ptV, h]
theorem ptV_small {s : ByteArray} {b : Int} (h : 0 < s.size) (hx : (s[0].toNat : Int) % pw b < pw b - 1) : ptV s b = [((s[0].toNat : Int) % pw b, true)] := by simp [ptV, h, hx]
theorem ptV_more {s : ByteArray} {b : Int} (h : 0 < s.size) (hx : ¬ (s[0].toNat : Int) % pw b < pw b - 1) : ptV s b = ((s[0].toNat : Int) % pw b, false) :: ptF 5 1 ((bys s).drop 1) := by
  simp only [ptV, dif_pos h, if_neg hx]
theorem ptF_len (k : Nat) : ∀ (p : Int) (cs : List Int), (ptF k p cs).length ≤ k := by
  induction k with
  | zero => intro p cs; simp [ptF]
  | succ k ih =>
    intro p cs
    cases cs with
    | nil => simp [ptF]
    | cons c cs =>
      simp only [ptF]
      split
      · simp
      · have := ih (p * 128) cs; simp; omega
theorem ptV_len (s : ByteArray) (b : Int) : (ptV s b).length ≤ 6 := by
  unfold ptV
  split
  · split
    · simp
    · have := ptF_len 5 1 ((bys s).drop 1); rw [List.length_cons]; omega
  · simp

def sumP (l : List (Int × Bool)) : Int := (l.map (·.1)).sum
def sumWr (l : List (Int × Bool)) : Int := l.foldl (fun a x => wrap64 (a + x.1)) 0
def lastB (l : List (Int × Bool)) : Bool := l.foldl (fun _ x => x.2) false
theorem sumW_snoc (l : List (Int × Bool)) (x : Int × Bool) : sumWr (l ++ [x]) = wrap64 (sumWr l + x.1) := by simp [sumWr]
theorem lastB_snoc (l : List (Int × Bool)) (x : Int × Bool) : lastB (l ++ [x]) = x.2 := by simp [lastB]
theorem lastB_cons (x y : Int × Bool) (l : List (Int × Bool)) : lastB (x :: y :: l) = lastB (y :: l) := by simp [lastB]

theorem sumW_eq (l : List (Int × Bool)) : ∀ a : Int, 0 ≤ a → a + l.length * 34359738368 ≤ 1000000000000 → (∀ x ∈ l, 0 ≤ x.1 ∧ x.1 ≤ 34359738368) → l.foldl (fun a x => wrap64 (a + x.1)) a = a + sumP l := by
  induction l with
  | nil => intro a _ _ _; simp [sumP]
  | cons x l ih =>
    intro a h0 h1 h2
    have hx := h2 x List.mem_cons_self
    have e : wrap64 (a + x.1) = a + x.1 := by unfold wrap64; simp at h1; omega
    rw [List.foldl_cons, e, ih (a + x.1) (by omega) (by simp at h1; omega) (fun y hy => h2 y (List.mem_cons_of_mem _ hy))]
    simp [sumP]; omega

theorem ptF_range (k : Nat) : ∀ (p : Int) (i : Nat) (cs : List Int), Plc i p → k + i = 6 → (∀ c ∈ cs, 0 ≤ c ∧ c ≤ 255) → ∀ x ∈ ptF k p cs, 0 ≤ x.1 ∧ x.1 ≤ 34359738368 := by
  induction k with
  | zero => intro p i cs _ _ _ x hx; simp [ptF] at hx
  | succ k ih =>
    intro p i cs hp hk hc x hx
    cases cs with
    | nil => simp [ptF] at hx
    | cons c cs =>
      have hcc := hc c List.mem_cons_self
      have hq : 0 ≤ c % 128 * p ∧ c % 128 * p ≤ 34359738368 := by unfold Plc at hp; rcases hp with ⟨_, rfl⟩ | ⟨_, rfl⟩ | ⟨_, rfl⟩ | ⟨_, rfl⟩ | ⟨_, rfl⟩ | ⟨_, rfl⟩ <;> omega
      by_cases h : c < 128
      · rw [ptF_last h] at hx; simp at hx; subst hx; exact hq
      · rw [ptF_more (by omega)] at hx
        rcases List.mem_cons.1 hx with rfl | hx
        · exact hq
        · exact ih (p * 128) (i + 1) cs (hp.next (by omega)) (by omega) (fun y hy => hc y (List.mem_cons_of_mem _ hy)) x hx

theorem ptV_range {s : ByteArray} {b : Int} (h1 : 1 ≤ b) (h8 : b ≤ 8) : ∀ x ∈ ptV s b, 0 ≤ x.1 ∧ x.1 ≤ 34359738368 := by
  have hp := pw_lo h1 h8
  intro x hx
  by_cases h : 0 < s.size
  · have hm := Int.emod_lt_of_pos (s[0].toNat : Int) (show (0 : Int) < pw b by omega)
    have hm0 := Int.emod_nonneg (s[0].toNat : Int) (show pw b ≠ 0 by omega)
    by_cases hs : (s[0].toNat : Int) % pw b < pw b - 1
    · rw [ptV_small h hs] at hx; simp at hx; subst hx; simp only; omega
    · rw [ptV_more h hs] at hx
      rcases List.mem_cons.1 hx with rfl | hx
      · simp only; omega
      · exact ptF_range 5 1 1 _ (.inl ⟨rfl, rfl⟩) rfl (fun c hc => bys_range s c (List.mem_of_mem_drop hc)) x hx
  · rw [ptV_empty (by omega)] at hx; simp at hx
theorem sumW_ptV {s : ByteArray} {b : Int} (h1 : 1 ≤ b) (h8 : b ≤ 8) : sumWr (ptV s b) = sumP (ptV s b) := by
  have hl := ptV_len s b
  have := sumW_eq (ptV s b) 0 (by omega) (by omega) (ptV_range h1 h8)
  unfold sumWr
  omega

/-- What the program makes of the parts. -/
def endR (n took : Int) (ended : Bool) (b : Int) : Int × Int := if ended = true ∧ wdV n b = took then (n, took) else (-1, 0)

def len4 (r : Int) : Int := if r < 128 then 1 else if r < 16384 then 2 else if r < 2097152 then 3 else if r < 268435456 then 4 else 5
theorem restF_len4 (r : Int) (h : 0 ≤ r) : ((restF 4 r).length : Int) = len4 r := by
  unfold len4
  by_cases h1 : r < 128
  · rw [restF_small h1]; simp [h1]
  rw [if_neg h1, restF_big (by omega)]
  by_cases h2 : r < 16384
  · rw [restF_small (by omega)]; simp [h2]
  rw [if_neg h2, restF_big (by omega)]
  by_cases h3 : r < 2097152
  · rw [restF_small (by omega)]; simp [h3]
  rw [if_neg h3, restF_big (by omega)]
  by_cases h4 : r < 268435456
  · rw [restF_small (by omega)]; simp [h4]
  rw [if_neg h4, restF_big (by omega)]
  simp [restF]
theorem wdV_len4 {n b : Int} (h1 : 1 ≤ b) (h8 : b ≤ 8) (hn : pw b - 1 ≤ n) : wdV n b = if n ≤ 268435456 then 1 + len4 (n - (pw b - 1)) else 0 := by
  have hp := pw_lo h1 h8
  by_cases hm : n ≤ 268435456
  · have hok : okN n b = true := decide_eq_true ⟨by omega, hm, h1, h8⟩
    rw [wdV_yes hok, if_pos hm]
    unfold bytesOf
    rw [if_neg (by omega), List.length_cons]
    have := restF_len4 (n - (pw b - 1)) (by omega)
    omega
  · rw [if_neg hm]
    exact wdV_no (decide_eq_false (by omega))

theorem endR_ptF {b : Int} (h1 : 1 ≤ b) (h8 : b ≤ 8) (k : Nat) : ∀ (n p : Int) (i : Nat) (cs : List Int), Plc i p → k + i = 6 → pw b - 1 ≤ n → n < pw b - 1 + p → (∀ c ∈ cs, 0 ≤ c ∧ c ≤ 255) →
    endR (n + sumP (ptF k p cs)) ((i : Int) + (ptF k p cs).length) (lastB (ptF k p cs)) b = rdF k n p i cs := by
  induction k with
  | zero => intro n p i cs _ _ _ _ _; simp [ptF, rdF, endR, lastB]
  | succ k ih =>
    intro n p i cs hp hk hn0 hn1 hc
    cases cs with
    | nil => simp [ptF, rdF, endR, lastB]
    | cons c cs =>
      have hcc := hc c List.mem_cons_self
      by_cases h : c < 128
      · rw [ptF_last h]
        simp only [rdF, if_pos h]
        have hq : pw b - 1 ≤ n + c % 128 * p := by unfold Plc at hp; rcases hp with ⟨_, rfl⟩ | ⟨_, rfl⟩ | ⟨_, rfl⟩ | ⟨_, rfl⟩ | ⟨_, rfl⟩ | ⟨_, rfl⟩ <;> omega
        have hw := wdV_len4 h1 h8 hq
        have e1 : sumP [(c % 128 * p, true)] = c % 128 * p := by simp [sumP]
        have e2 : lastB [(c % 128 * p, true)] = true := by simp [lastB]
        rw [e1, e2]
        unfold endR
        have key : (true = true ∧ wdV (n + c % 128 * p) b = (i : Int) + ([(c % 128 * p, true)] : List (Int × Bool)).length) ↔ ¬ (268435456 < n + c % 128 * p ∨ (1 < i ∧ c = 0)) := by
          rw [hw]
          simp only [List.length_cons, List.length_nil, true_and, Nat.zero_add]
          unfold len4
          unfold Plc at hp
          rcases hp with ⟨rfl, rfl⟩ | ⟨rfl, rfl⟩ | ⟨rfl, rfl⟩ | ⟨rfl, rfl⟩ | ⟨rfl, rfl⟩ | ⟨rfl, rfl⟩ <;> (repeat' split) <;> omega
        by_cases hr : 268435456 < n + c % 128 * p ∨ (1 < i ∧ c = 0)
        · rw [if_pos hr, if_neg (fun x => (key.1 x) hr)]
        · rw [if_neg hr, if_pos (key.2 hr)]; simp
      · rw [ptF_more (by omega)]
        simp only [rdF, if_neg h]
        have hq : pw b - 1 ≤ n + c % 128 * p ∧ n + c % 128 * p < pw b - 1 + p * 128 := by unfold Plc at hp; rcases hp with ⟨_, rfl⟩ | ⟨_, rfl⟩ | ⟨_, rfl⟩ | ⟨_, rfl⟩ | ⟨_, rfl⟩ | ⟨_, rfl⟩ <;> omega
        rw [← ih (n + c % 128 * p) (p * 128) (i + 1) cs (hp.next (by omega)) (by omega) hq.1 hq.2 (fun y hy => hc y (List.mem_cons_of_mem _ hy))]
        have e1 : n + sumP ((c % 128 * p, false) :: ptF k (p * 128) cs) = n + c % 128 * p + sumP (ptF k (p * 128) cs) := by simp [sumP]; omega
        have e2 : (i : Int) + (((c % 128 * p, false) :: ptF k (p * 128) cs).length : Nat) = ((i + 1 : Nat) : Int) + (ptF k (p * 128) cs).length := by simp; omega
        have e3 : lastB ((c % 128 * p, false) :: ptF k (p * 128) cs) = lastB (ptF k (p * 128) cs) := by
          cases ptF k (p * 128) cs with
          | nil => simp [lastB]
          | cons y l => exact lastB_cons _ _ _
        rw [e1, e2, e3]

theorem endR_ptV {s : ByteArray} {b : Int} (hb : inB b 1 8 = true) : endR (sumWr (ptV s b)) ((ptV s b).length : Int) (lastB (ptV s b)) b = rdV s b := by
  obtain ⟨h1, h8⟩ := inB_true hb
  have hp := pw_lo h1 h8
  rw [sumW_ptV h1 h8]
  by_cases h : 0 < s.size
  · have hm := Int.emod_lt_of_pos (s[0].toNat : Int) (show (0 : Int) < pw b by omega)
    have hm0 := Int.emod_nonneg (s[0].toNat : Int) (show pw b ≠ 0 by omega)
    by_cases hs : (s[0].toNat : Int) % pw b < pw b - 1
    · rw [ptV_small h hs, rdV_small h hb hs]
      have hok : okN ((s[0].toNat : Int) % pw b) b = true := decide_eq_true ⟨hm0, by omega, h1, h8⟩
      have hw : wdV ((s[0].toNat : Int) % pw b) b = 1 := by rw [wdV_yes hok]; simp [bytesOf, hs]
      simp [endR, sumP, lastB, hw]
    · rw [ptV_more h hs, rdV_more h hb hs]
      rw [← endR_ptF h1 h8 5 ((s[0].toNat : Int) % pw b) 1 1 ((bys s).drop 1) (.inl ⟨rfl, rfl⟩) rfl (by omega) (by omega) (fun c hc => bys_range s c (List.mem_of_mem_drop hc))]
      have e3 : lastB (((s[0].toNat : Int) % pw b, false) :: ptF 5 1 ((bys s).drop 1)) = lastB (ptF 5 1 ((bys s).drop 1)) := by
        cases ptF 5 1 ((bys s).drop 1) with
        | nil => simp [lastB]
        | cons y l => exact lastB_cons _ _ _
      rw [e3]
      congr 1
      simp; omega
  · rw [ptV_empty (by omega), rdV_empty (by omega)]
    simp [endR, lastB]

theorem rdV_pos {s : ByteArray} {b : Int} (hb : inB b 1 8 = true) : rdV s b = (-1, 0) ∨ (lastB (ptV s b) = true ∧ wdV (sumWr (ptV s b)) b = ((ptV s b).length : Int) ∧ rdV s b = (sumWr (ptV s b), ((ptV s b).length : Int))) := by
  rw [← endR_ptV hb]
  unfold endR
  by_cases h : lastB (ptV s b) = true ∧ wdV (sumWr (ptV s b)) b = ((ptV s b).length : Int)
  · rw [if_pos h]; exact .inr ⟨h.1, h.2, rfl⟩
  · rw [if_neg h]; exact .inl rfl
end Go.Proofs.Ytejmnkabmajebaa
/- Chapter 3's iterator over a number's bytes: whoever ranges over it gets just these bytes, in their order. -/
namespace Go.Proofs.Ytejmnkabmajebaa
open Go.RowKit Go.Shelf
attribute [local go_sem] Oper.semAt_some
set_option linter.unusedSimpArgs false
set_option linter.unusedVariables false

/-- Two blocks lie as they lay. -/
def Kept2 (a b : Nat) (W W' : World) : Prop := W'.heap[a]? = W.heap[a]? ∧ W'.heap[b]? = W.heap[b]?
theorem kept2_t {a b : Nat} {A B C : World} (h : Kept2 a b A B) (k : Kept2 a b B C) : Kept2 a b A C := ⟨k.1.trans h.1, k.2.trans h.2⟩
theorem kept2_b {a b : Nat} {w : World} (ha : a < w.heap.size) (hb : b < w.heap.size) (W : World) (l : Nat) (o o' : Obj) (hl : w.heap.size ≤ l) (h : W.heap[l]? = some o) (_ : o.isCells = false) (_ : o.isWalk = false) : Kept2 a b W (W.putObj l o') :=
  ⟨World.putObj_heap_other (by omega), World.putObj_heap_other (by omega)⟩
theorem Kept2.boxed1 {a b : Nat} {W W' : World} (h : Kept2 a b W W') {t : TypeId} {v : Value} (hb : Boxed W a t v) : Boxed W' a t v := h.1.trans hb
theorem Kept2.boxed2 {a b : Nat} {W W' : World} (h : Kept2 a b W W') {t : TypeId} {v : Value} (hb : Boxed W b t v) : Boxed W' b t v := h.2.trans hb

set_option maxRecDepth 100000 in
set_option maxHeartbeats 2000000 in
theorem bytes1_in (m : Nat) (hm : 1 ≤ m) (l Bn Bb : Nat) (n b : Int) (hn0 : 0 ≤ n) (hn : n ≤ 268435456) (h1 : 1 ≤ b) (h8 : b ≤ 8) (J Jx : List Int → World → Prop)
    (hY : ∀ pre x W, J pre W → pre.length < (bytesOf n (pw b - 1)).length → YieldAt Fence.wide (m - 1) Try.prog l #[.int .u8 x] W fun e W' =>
      (e = .returned (.bool true) ∧ J (pre ++ [x]) W' ∧ Kept2 Bn Bb W W') ∨ (e = .returned (.bool false) ∧ Jx (pre ++ [x]) W'))
    (W : World) (hBn : Boxed W Bn 2 (.int .i64 n)) (hBb : Boxed W Bb 2 (.int .i64 b)) (h0 : J [] W) :
    CallsIn Fence.wide m Try.prog 113 #[.func (.yield l) #[] #[], .pointer (some ⟨Bb, 0, none⟩), .pointer (some ⟨Bn, 0, none⟩)] W fun e W' => (∃ v, e = .returned v) ∧
      ((∃ ys, ys = bytesOf n (pw b - 1) ∧ J ys W') ∨ (∃ pre, True ∧ Jx pre W')) := by
  obtain ⟨hp1, hp2⟩ := pw_lo h1 h8
  have cn := hBn.cell
  have cb := hBb.cell
  have hB1 := (bytesOf_len n (pw b - 1)).1
  by_cases hlt : n < pw b - 1
  · have hbo : bytesOf n (pw b - 1) = [n] := by simp [bytesOf, hlt]
    obtain ⟨fn, tmps, assign, body, hy, hR⟩ := hY [] n W h0 hB1
    refine callsIn_of_wp Try.func113 rfl trivial ?_ rfl
    simp only [Try.ntmps113, List.size_toArray, List.length_cons, List.length_nil, Nat.reduceAdd, Nat.reduceSub, Array.replicate_succ, Array.replicate_zero, List.push_toArray, List.append_toArray, List.nil_append, List.cons_append]
    gi_wp2_with (refine ⟨trivial, ?_⟩; gi_at_call 96; refine (callsIn_wide.2 (implLowest b _ h1 h8)).mono ?_; rintro e w' ⟨rfl, rfl⟩)
    refine hR.mono ?_
    rintro e W3 (⟨rfl, hJ3, hk3⟩ | ⟨rfl, hJx3⟩)
    · gi_wp2
      refine bodyPost_ret (results_none rfl _ _ _) rfl ?_
      exact ⟨⟨_, rfl⟩, .inl ⟨[n], hbo.symm, hJ3⟩⟩
    · gi_wp2
      refine bodyPost_ret (results_none rfl _ _ _) rfl ?_
      exact ⟨⟨_, rfl⟩, .inr ⟨_, trivial, hJx3⟩⟩
  · have hbo : bytesOf n (pw b - 1) = (pw b - 1) :: restF 4 (n - (pw b - 1)) := by simp only [bytesOf]; rw [if_neg hlt]
    obtain ⟨fn, tmps, assign, body, hy, hR⟩ := hY [] (pw b - 1) W h0 hB1
    refine callsIn_of_wp Try.func113 rfl trivial ?_ rfl
    simp only [Try.ntmps113, List.size_toArray, List.length_cons, List.length_nil, Nat.reduceAdd, Nat.reduceSub, Array.replicate_succ, Array.replicate_zero, List.push_toArray, List.append_toArray, List.nil_append, List.cons_append]
    gi_wp2_with (refine ⟨trivial, ?_⟩; gi_at_call 96; refine (callsIn_wide.2 (implLowest b _ h1 h8)).mono ?_; rintro e w' ⟨rfl, rfl⟩)
    refine hR.mono ?_
    rintro e W3 (⟨rfl, hJ3, hk3⟩ | ⟨rfl, hJx3⟩)
    · have cn3 := (hk3.boxed1 hBn).cell
      gi_wp2
      gi_loopw [5] (fun r wr => ∃ (k : Nat) (z : Int) (pre : List Int), r = .int .i64 z ∧ 0 ≤ z ∧ z < 128 ^ (k + 1) ∧ z ≤ 268435456 ∧ bytesOf n (pw b - 1) = pre ++ restF k z ∧ J pre wr) (fun r _ => (intOf r).toNat)
      case atStart => exact ⟨4, n - (pw b - 1), [pw b - 1], rfl, by omega, by simp; omega, by omega, hbo, hJ3⟩
      case round =>
        obtain ⟨k, z, pre, rfl, hz0, hz1, hz2, hpre, hJs⟩ := hrel
        have hpl : pre.length < (bytesOf n (pw b - 1)).length := by rw [hpre, List.length_append]; have := restF_ne k z; omega
        by_cases hz : z < 128
        · have hbe : bytesOf n (pw b - 1) = pre ++ [z] := by rw [hpre, restF_small hz]
          obtain ⟨fn4, tmps4, assign4, body4, hy4, hR4⟩ := hY pre z wr hJs hpl
          gi_wp2
          refine hR4.mono ?_
          rintro e W4 (⟨rfl, hJ4, hk4⟩ | ⟨rfl, hJx4⟩)
          · gi_wp2
            go_end0
            exact ⟨⟨_, rfl⟩, .inl ⟨_, hbe.symm, hJ4⟩⟩
          · gi_wp2
            go_end0
            exact ⟨⟨_, rfl⟩, .inr ⟨_, trivial, hJx4⟩⟩
        · obtain ⟨k', rfl⟩ : ∃ k', k = k' + 1 := ⟨k - 1, by cases k with | zero => simp at hz1; omega | succ k => rfl⟩
          obtain ⟨fn4, tmps4, assign4, body4, hy4, hR4⟩ := hY pre (z % 128 + 128) wr hJs hpl
          have HB : Hid (bytesOf n (pw b - 1) = (pre ++ [z % 128 + 128]) ++ restF k' (z / 128)) := by show _ = _; rw [hpre, restF_big (by omega)]; simp
          have HZ : Hid (z / 128 < 128 ^ (k' + 1)) := by show _ < _; rw [Int.pow_succ] at hz1; omega
          clear hz1 hpre
          gi_wp2
          refine hR4.mono ?_
          rintro e W4 (⟨rfl, hJ4, hk4⟩ | ⟨rfl, hJx4⟩)
          · gi_wp2
            go_roundw
            case rel => exact ⟨k', z / 128, _, by go_num, by omega, HZ.out, by omega, HB.out, hJ4⟩
            case measure => simp [intOf]; omega
          · gi_wp2
            refine bodyPost_ret (results_none rfl _ _ _) rfl ?_
            exact ⟨⟨_, rfl⟩, .inr ⟨_, trivial, hJx4⟩⟩
    · gi_wp2
      refine bodyPost_ret (results_none rfl _ _ _) rfl ?_
      exact ⟨⟨_, rfl⟩, .inr ⟨_, trivial, hJx3⟩⟩

set_option maxHeartbeats 1000000 in
/-- The closure's maker: both arguments are boxed. -/
theorem prefixBytes_in (m : Nat) (n b : Int) (w : World) :
    CallsIn Fence.wide m Try.prog 107 #[.int .i64 n, .int .i64 b] w fun e w' => e = .returned (.func (.func 113) #[] #[.pointer (some ⟨w.heap.size + 1, 0, none⟩), .pointer (some ⟨w.heap.size, 0, none⟩)])
      ∧ w' = (w.alloc (.cells #[.int .i64 n] 2)).alloc (.cells #[.int .i64 b] 2) := by
  refine callsIn_of_wp Try.func107 rfl trivial ?_ rfl
  simp only [Try.ntmps107, List.size_toArray, List.length_cons, List.length_nil, Nat.reduceAdd, Nat.reduceSub, Array.replicate_succ, Array.replicate_zero, List.push_toArray, List.append_toArray, List.nil_append, List.cons_append]
  gi_wp2
  go_ret
  exact ⟨rfl, rfl⟩

theorem bytes_stops (m : Nat) (hm : 1 ≤ m) (Bn Bb : Nat) (n b : Int) (hn0 : 0 ≤ n) (hn : n ≤ 268435456) (h1 : 1 ≤ b) (h8 : b ≤ 8) (w : World) (hBn : Boxed w Bn 2 (.int .i64 n)) (hBb : Boxed w Bb 2 (.int .i64 b)) :
    SeqStopsK Fence.wide m Try.prog 113 #[.pointer (some ⟨Bb, 0, none⟩), .pointer (some ⟨Bn, 0, none⟩)] (fun x : Int => #[Value.int .u8 x]) (Kept2 Bn Bb) (fun ys => ys = bytesOf n (pw b - 1)) (fun _ => True) (bytesOf n (pw b - 1)).length w :=
  fun l J Jx W hW _ _ hY h0 => bytes1_in m hm l Bn Bb n b hn0 hn h1 h8 J Jx hY W ((hW.block Bn hBn.lt).trans hBn) ((hW.block Bb hBb.lt).trans hBb) h0
end Go.Proofs.Ytejmnkabmajebaa
/- Chapter 3's model: the bytes that it writes. -/
namespace Go.Proofs.Ytejmnkabmajebaa
open Go.RowKit
set_option maxRecDepth 100000
set_option linter.unusedSimpArgs false
set_option linter.unusedVariables false

/-- The first of a row with something added. -/
def addHead (h : Int) : List Int → List Int
  | [] => []
  | x :: xs => (h + x) :: xs
theorem addHead_len (h : Int) (l : List Int) : (addHead h l).length = l.length := by cases l <;> rfl

set_option maxHeartbeats 2000000 in
theorem specL3 (n b h : Int) (w : World) (hn0 : 0 ≤ n) (hn : n ≤ 268435456) (h1 : 1 ≤ b) (h8 : b ≤ 8) (hh : 0 ≤ h) (hf : h + (pw b - 1) ≤ 255) :
    Calls Try.prog 78 #[.int .i64 n, .int .i64 b, .int .i64 h] w fun e w' => e = .returned (.string (strOf (addHead h (bytesOf n (pw b - 1))))) ∧ Below w.heap.size w w' := by
  obtain ⟨hp1, hp2⟩ := pw_lo h1 h8
  have hpw : (2 : Int) ^ b.toNat = pw b := rfl
  obtain ⟨i0, hi, hz0, hz1, hz2⟩ := info_parts (P := Try.prog) (e := 5) (z := .int .u8 0) (size := 1) (bytes := 1) (by kernel_rfl)
  by_cases hlt : n < pw b - 1
  · have hbo : addHead h (bytesOf n (pw b - 1)) = [h + n] := by simp [bytesOf, hlt, addHead]
    rw [hbo]
    have hcv := row_string (l := [h + n]) (ownsRow_one w 5 (Value.int .u8 (h + n))) (by intro x hx; simp at hx; omega)
    go_enter Try.func78, Try.ntmps78
    go_wp2_with fail
    go_ret
    exact ⟨rfl, (Below.refl _ _).alloc (Nat.le_refl _) _⟩
  · have hbo : addHead h (bytesOf n (pw b - 1)) = (h + (pw b - 1)) :: restF 4 (n - (pw b - 1)) := by simp only [bytesOf]; rw [if_neg hlt]; rfl
    have hle : pw b - 1 ≤ n := by omega
    obtain ⟨L, hL⟩ : ∃ L, addHead h (bytesOf n (pw b - 1)) = L := ⟨_, rfl⟩
    have hLl : L.length ≤ 6 := by rw [← hL, addHead_len]; exact (bytesOf_len n _).2
    rw [hL] at hbo ⊢
    go_enter Try.func78, Try.ntmps78
    go_wp2_with fail
    go_loopw [0, 8] (fun r v wr => ∃ (k : Nat) (z : Int) (pre : List Int), r = .int .i64 z ∧ 0 ≤ z ∧ z < 128 ^ (k + 1) ∧ z ≤ 268435456 ∧ L = pre ++ restF k z ∧ (∀ x ∈ pre, 0 ≤ x ∧ x ≤ 255) ∧ wr.ownsRow w.heap.size 5 1 v pre.length (pre.map (Value.int .u8)) ∧ Below w.heap.size w wr) (fun r _ _ => (intOf r).toNat)
    case atStart =>
      exact ⟨4, n - (pw b - 1), [h + (pw b - 1)], by go_num, by omega, by simp; omega, by omega, hbo, by intro x hx; simp at hx; omega, ownsRow_one w 5 (Value.int .u8 (h + (pw b - 1))), (Below.refl _ _).alloc (Nat.le_refl _) _⟩
    case round =>
      obtain ⟨k, z, pre, rfl, hz0', hz1', hz2', hpre, hx, hown, hB⟩ := hrel
      have hpl : pre.length + 1 ≤ 6 := by have := restF_ne k z; rw [hpre, List.length_append] at hLl; omega
      have hsz := hB.size
      by_cases hz : z < 128
      · have HL : Hid (L = pre ++ [z]) := by show _ = _; rw [hpre, restF_small hz]
        have hown2 := hown.alloc (.cells #[.int .u8 z] 5)
        clear hz1' hpre hbo hL
        go_wp2_with (at_builtin; refine wpList_append_own _ rfl _ _ 22 rfl w.heap.size 5 i0 (.int .u8 0) 1 1 Try.underlying22 hi hz0 hz1 hz2 rfl (by decide) _ _ _ rfl hown2 ⟨wr.heap.size, 0, none⟩ 1 1 [.int .u8 z] rfl rfl ?c1 ?c2 ?c3 ?c4 ?c5 ?_)
        case c1 => exact cell_one_new _ _ _
        case c2 => intro u hu; simp at hu; subst hu; rfl
        case c3 => unfold maxLen; omega
        case c4 => omega
        case c5 => simp; omega
        intro v' w3 hown3 hgrow _
        have hcv := row_string (l := pre ++ [z]) (by simpa using hown3) (by intro x hx2; rcases List.mem_append.1 hx2 with h | h; exact hx x h; simp at h; omega)
        have hB3 : Below w.heap.size w w3 := (hB.alloc hB.size _).grown hgrow (by simp; omega) (fun k hk => (hown2.lt k hk).1)
        go_wp2_with fail
        go_ret
        exact ⟨by rw [HL.out]; rfl, hB3⟩
      · obtain ⟨k', rfl⟩ : ∃ k', k = k' + 1 := ⟨k - 1, by cases k with | zero => simp at hz1'; omega | succ k => rfl⟩
        have HL : Hid (L = (pre ++ [z % 128 + 128]) ++ restF k' (z / 128)) := by show _ = _; rw [hpre, restF_big (by omega)]; simp
        have HZ : Hid (z / 128 < 128 ^ (k' + 1)) := by show _ < _; rw [Int.pow_succ] at hz1'; omega
        have hown2 := hown.alloc (.cells #[.int .u8 (z % 128 + 128)] 5)
        clear hz1' hpre hbo hL
        go_wp2_with (at_builtin; refine wpList_append_own _ rfl _ _ 22 rfl w.heap.size 5 i0 (.int .u8 0) 1 1 Try.underlying22 hi hz0 hz1 hz2 rfl (by decide) _ _ _ rfl hown2 ⟨wr.heap.size, 0, none⟩ 1 1 [.int .u8 (z % 128 + 128)] rfl rfl (cell_one_new _ _ _) ?d2 ?d3 ?d4 ?d5 ?_)
        case d2 => first | rfl | (intro u hu; simp at hu; subst hu; rfl)
        case d3 => first | omega | (unfold maxLen; omega)
        case d4 => omega
        case d5 => first | omega | (simp; omega)
        intro v' w3 hown3 hgrow _
        have HX : Hid (∀ x ∈ pre ++ [z % 128 + 128], 0 ≤ x ∧ x ≤ 255) := by show ∀ _ ∈ _, _; intro x hx2; rcases List.mem_append.1 hx2 with h | h; exact hx x h; simp at h; omega
        have hB3 : Below w.heap.size w w3 := (hB.alloc hB.size _).grown hgrow (by simp; omega) (fun k hk => (hown2.lt k hk).1)
        have HO : Hid (w3.ownsRow w.heap.size 5 1 v' (pre ++ [z % 128 + 128]).length ((pre ++ [z % 128 + 128]).map (Value.int .u8))) := by show World.ownsRow _ _ _ _ _ _ _; simpa using hown3
        clear hown3 hown2 hown hx
        go_wp2_with fail
        go_roundw
        case rel => exact ⟨k', z / 128, _, by go_num, by omega, HZ.out, by omega, HL.out, HX.out, HO.out, hB3⟩
        case measure => simp [intOf]; omega

end Go.Proofs.Ytejmnkabmajebaa
/- What a Field weighs, and the rows of a Table: in plain words, of the program and of the model. -/
namespace Go.Proofs.Ytejmnkabmajebaa
open Go.RowKit
set_option maxRecDepth 100000
set_option linter.unusedSimpArgs false
set_option linter.unusedVariables false

/-- Is it right? -/
def okF (f : Fd) : Bool := inB f.n.size 1 40 && decide ((f.v.size : Int) ≤ 60)
/-- What it weighs. -/
def wt (f : Fd) : Int := if okF f then (f.n.size : Int) + f.v.size + 8 else 0
def sumW : List Fd → Int
  | [] => 0
  | f :: L => wt f + sumW L
theorem okF_parts {f : Fd} (h : okF f = true) : (1 : Int) ≤ f.n.size ∧ (f.n.size : Int) ≤ 40 ∧ (f.v.size : Int) ≤ 60 := by
  unfold okF at h
  simp only [Bool.and_eq_true, decide_eq_true_eq] at h
  have := inB_true h.1
  omega
theorem wt_ok {f : Fd} (h : okF f = true) : wt f = f.n.size + f.v.size + 8 := by simp [wt, h]
theorem wt_no {f : Fd} (h : okF f = false) : wt f = 0 := by simp [wt, h]
theorem wt_range (f : Fd) : 0 ≤ wt f ∧ wt f ≤ 108 := by
  cases h : okF f
  · rw [wt_no h]; omega
  · rw [wt_ok h]; have := okF_parts h; omega
theorem wt_pos {f : Fd} (h : okF f = true) : 9 ≤ wt f := by rw [wt_ok h]; have := okF_parts h; omega
theorem wt_zero (f : Fd) : (wt f = 0) ↔ okF f = false := by
  cases h : okF f
  · simp [wt_no h]
  · have := wt_pos h; simp; omega
theorem sumW_range (L : List Fd) : 0 ≤ sumW L ∧ sumW L ≤ 108 * L.length := by
  induction L with
  | nil => simp [sumW]
  | cons f L ih => have := wt_range f; simp only [sumW, List.length_cons]; omega
theorem sumW_app (A B : List Fd) : sumW (A ++ B) = sumW A + sumW B := by
  induction A with
  | nil => simp [sumW]
  | cons f A ih => simp only [List.cons_append, sumW, ih]; omega
theorem sumW_succ (L : List Fd) (k : Nat) (h : k < L.length) : sumW (L.take (k + 1)) = sumW (L.take k) + wt L[k] := by
  rw [List.take_succ_eq_append_getElem h, sumW_app]; simp [sumW]
theorem sumW_ge {L : List Fd} (h : ∀ f ∈ L, okF f = true) : 9 * (L.length : Int) ≤ sumW L := by
  induction L with
  | nil => simp [sumW]
  | cons f L ih => have := wt_pos (h f (by simp)); have := ih fun g hg => h g (by simp [hg]); simp only [sumW, List.length_cons]; omega

/-- Is a Table of this Room and these Rows right? -/
def okT (room : Int) (L : List Fd) : Bool := inB room 0 1000 && (L.all okF && decide (sumW L ≤ room))
theorem okT_parts {room : Int} {L : List Fd} (h : okT room L = true) : 0 ≤ room ∧ room ≤ 1000 ∧ (∀ f ∈ L, okF f = true) ∧ sumW L ≤ room ∧ L.length ≤ 111 := by
  unfold okT at h
  simp only [Bool.and_eq_true, decide_eq_true_eq, List.all_eq_true] at h
  have h1 := inB_true h.1
  have h2 := sumW_ge h.2.1
  exact ⟨h1.1, h1.2, h.2.1, h.2.2, by omega⟩

/-- The last ones go as long as they weigh more than the room. -/
def shrN (room : Int) : Nat → List Fd → List Fd
  | 0, L => L
  | n + 1, L => if room < sumW L then shrN room n L.dropLast else L
def shr (room : Int) (L : List Fd) : List Fd := shrN room L.length L
theorem shr_stop {room : Int} {L : List Fd} (h : ¬ room < sumW L) : shr room L = L := by
  unfold shr
  cases L.length with
  | zero => rfl
  | succ n => simp [shrN, h]
theorem shr_go {room : Int} {L : List Fd} (h : room < sumW L) : shr room L = shr room L.dropLast := by
  unfold shr
  cases hn : L.length with
  | zero =>
    have : L = [] := List.length_eq_zero_iff.1 hn
    subst this
    rfl
  | succ n => rw [shrN, if_pos h, List.length_dropLast, hn]; rfl
theorem shr_mem {room : Int} (n : Nat) : ∀ {L : List Fd}, ∀ f ∈ shrN room n L, f ∈ L := by
  induction n with
  | zero => intro L f hf; exact hf
  | succ n ih =>
    intro L f hf
    rw [shrN] at hf
    split at hf
    · exact (List.dropLast_sublist _).subset (ih f hf)
    · exact hf
theorem shr_all {room : Int} {L : List Fd} (h : ∀ f ∈ L, okF f = true) : ∀ f ∈ shr room L, okF f = true := fun f hf => h f (shr_mem _ f hf)
theorem shr_len {room : Int} (L : List Fd) : (shr room L).length ≤ L.length := by
  have : ∀ n (L : List Fd), (shrN room n L).length ≤ L.length := fun n => by
    induction n with
    | zero => intro L; exact Nat.le_refl _
    | succ n ih =>
      intro L
      rw [shrN]
      split
      · have := ih L.dropLast; rw [List.length_dropLast] at this; omega
      · exact Nat.le_refl _
  exact this _ _

theorem fine_of {f : Fd} (h : okF f = true) : f.fine := by have := okF_parts h; exact ⟨by omega, by omega⟩

theorem implWt (f : Fd) (w : World) (hf : f.fine) : Calls Try.prog 71 #[.agg #[.string f.n, .string f.v]] w fun x w' => x = .returned (.int .i64 (wt f)) ∧ Below w.heap.size w w' := by
  obtain ⟨hn, hv⟩ := hf
  cases h : okF f
  · rw [wt_no h]
    unfold okF at h
    cases h1 : inB f.n.size 1 40
    · clear h
      go_enter Try.func71, Try.ntmps71
      go_wp2_with fail
      go_quiet (fail)
      go_wp2_with fail
      refine (implWithin _ _ _ _).mono ?_; rw [h1]; rintro e w1 ⟨rfl, rfl⟩
      go_wp2_with fail
      go_ret
      exact ⟨rfl, (by repeat' (first | (with_reducible exact Below.refl _ _) | (with_reducible refine Below.drew ?_) | (with_reducible refine bo_drewN _ ?_) | (with_reducible refine bo_alloc ?_ _) | (refine bchain ?_ (by with_reducible assumption)) | (with_reducible refine Below.setCell ?_ ?_ _) | go_size))⟩
    · have h2 : ¬ ((f.v.size : Int) ≤ 60) := by simpa [h1] using h
      clear h
      go_enter Try.func71, Try.ntmps71
      go_wp2_with fail
      go_quiet (fail)
      go_wp2_with fail
      refine (implWithin _ _ _ _).mono ?_; rw [h1]; rintro e w1 ⟨rfl, rfl⟩
      go_wp2_with fail
      go_ret
      exact ⟨rfl, (by repeat' (first | (with_reducible exact Below.refl _ _) | (with_reducible refine Below.drew ?_) | (with_reducible refine bo_drewN _ ?_) | (with_reducible refine bo_alloc ?_ _) | (refine bchain ?_ (by with_reducible assumption)) | (with_reducible refine Below.setCell ?_ ?_ _) | go_size))⟩
  · rw [wt_ok h]
    obtain ⟨p1, p2, p3⟩ := okF_parts h
    have h1 : inB f.n.size 1 40 = true := by unfold okF at h; simp only [Bool.and_eq_true] at h; exact h.1
    clear h
    go_enter Try.func71, Try.ntmps71
    go_wp2_with fail
    go_quiet (fail)
    go_wp2_with fail
    refine (implWithin _ _ _ _).mono ?_; rw [h1]; rintro e w1 ⟨rfl, rfl⟩
    go_wp2_with fail
    go_ret
    exact ⟨rfl, (by repeat' (first | (with_reducible exact Below.refl _ _) | (with_reducible refine Below.drew ?_) | (with_reducible refine bo_drewN _ ?_) | (with_reducible refine bo_alloc ?_ _) | (refine bchain ?_ (by with_reducible assumption)) | (with_reducible refine Below.setCell ?_ ?_ _) | go_size))⟩

theorem implRight (f : Fd) (w : World) (hf : f.fine) : Calls Try.prog 46 #[.agg #[.string f.n, .string f.v]] w fun x w' => x = .returned (.bool (okF f)) ∧ Below w.heap.size w w' := by
  have hz := wt_zero f
  cases h : okF f
  · have h0 := hz.2 h
    go_enter Try.func46, Try.ntmps46
    go_wp2_with fail
    refine (implWt f _ hf).mono ?_; rw [h0]; rintro e w1 ⟨rfl, hb1⟩
    go_wp2_with fail
    go_ret
    exact ⟨rfl, (by repeat' (first | (with_reducible exact Below.refl _ _) | (with_reducible refine Below.drew ?_) | (with_reducible refine bo_drewN _ ?_) | (with_reducible refine bo_alloc ?_ _) | (refine bchain ?_ (by with_reducible assumption)) | (with_reducible refine Below.setCell ?_ ?_ _) | go_size))⟩
  · have h0 : ¬ wt f = 0 := fun e => by rw [hz.1 e] at h; cases h
    go_enter Try.func46, Try.ntmps46
    go_wp2_with fail
    refine (implWt f _ hf).mono ?_; rintro e w1 ⟨rfl, hb1⟩
    generalize wt f = z at *
    clear hz
    go_wp2_with fail
    go_ret
    exact ⟨by simp [h0], (by repeat' (first | (with_reducible exact Below.refl _ _) | (with_reducible refine Below.drew ?_) | (with_reducible refine bo_drewN _ ?_) | (with_reducible refine bo_alloc ?_ _) | (refine bchain ?_ (by with_reducible assumption)) | (with_reducible refine Below.setCell ?_ ?_ _) | go_size))⟩
theorem implRoom (r : Int) (w : World) : Calls Try.prog 85 #[.int .i64 r] w fun e w' => e = .returned (.bool (inB r 0 1000)) ∧ w' = w := by
  go_enter Try.func85, Try.ntmps85
  go_wp2_with (go_at_call 93; refine (implWithin _ _ _ _).mono ?_; rintro e w' ⟨rfl, rfl⟩)
  go_ret
  exact ⟨rfl, rfl⟩
theorem specField (f : Fd) (w : World) (hf : f.fine) : Calls Try.prog 54 #[.agg #[.string f.n, .string f.v]] w fun x w' => x = .returned (.bool (okF f)) ∧ Below w.heap.size w w' := by
  obtain ⟨hn, hv⟩ := hf
  unfold okF
  cases h1 : inB f.n.size 1 40
  · go_enter Try.func54, Try.ntmps54
    go_wp2_with fail
    refine (specIn _ _ _ _).mono ?_; rw [h1]; rintro e w1 ⟨rfl, rfl⟩
    go_wp2_with fail
    go_ret
    exact ⟨rfl, (by repeat' (first | (with_reducible exact Below.refl _ _) | (with_reducible refine Below.drew ?_) | (with_reducible refine bo_drewN _ ?_) | (with_reducible refine bo_alloc ?_ _) | (refine bchain ?_ (by with_reducible assumption)) | (with_reducible refine Below.setCell ?_ ?_ _) | go_size))⟩
  · go_enter Try.func54, Try.ntmps54
    go_wp2_with fail
    refine (specIn _ _ _ _).mono ?_; rw [h1]; rintro e w1 ⟨rfl, rfl⟩
    go_wp2_with fail
    go_ret
    exact ⟨by simp, (by repeat' (first | (with_reducible exact Below.refl _ _) | (with_reducible refine Below.drew ?_) | (with_reducible refine bo_drewN _ ?_) | (with_reducible refine bo_alloc ?_ _) | (refine bchain ?_ (by with_reducible assumption)) | (with_reducible refine Below.setCell ?_ ?_ _) | go_size))⟩
theorem specWt (f : Fd) (w : World) (hf : f.fine) : Calls Try.prog 100 #[.agg #[.string f.n, .string f.v]] w fun x w' => x = .returned (.int .i64 (wt f)) ∧ Below w.heap.size w w' := by
  have hf' := hf
  obtain ⟨hn, hv⟩ := hf'
  cases h : okF f
  · rw [wt_no h]
    go_enter Try.func100, Try.ntmps100
    go_wp2_with fail
    refine (specField f _ hf).mono ?_; rw [h]; rintro e w1 ⟨rfl, hb1⟩
    go_wp2_with fail
    go_ret
    exact ⟨rfl, (by repeat' (first | (with_reducible exact Below.refl _ _) | (with_reducible refine Below.drew ?_) | (with_reducible refine bo_drewN _ ?_) | (with_reducible refine bo_alloc ?_ _) | (refine bchain ?_ (by with_reducible assumption)) | (with_reducible refine Below.setCell ?_ ?_ _) | go_size))⟩
  · rw [wt_ok h]
    obtain ⟨p1, p2, p3⟩ := okF_parts h
    go_enter Try.func100, Try.ntmps100
    go_wp2_with fail
    refine (specField f _ hf).mono ?_; rw [h]; rintro e w1 ⟨rfl, hb1⟩; have hc1 := fun o => hb1.cell (p := ⟨w.heap.size, o, none⟩) (by first | (simp; done) | (simp; omega) | omega); have hf1 := fun o => hb1.frozen (p := ⟨w.heap.size, o, none⟩) (by first | (simp; done) | (simp; omega) | omega)
    go_wp2_with fail
    go_ret
    exact ⟨rfl, (by repeat' (first | (with_reducible exact Below.refl _ _) | (with_reducible refine Below.drew ?_) | (with_reducible refine bo_drewN _ ?_) | (with_reducible refine bo_alloc ?_ _) | (refine bchain ?_ (by with_reducible assumption)) | (with_reducible refine Below.setCell ?_ ?_ _) | go_size))⟩
set_option maxHeartbeats 1000000 in
theorem specSum (L : List Fd) (v : Value) (w : World) (hr0 : Reads w v L.length 2 (fv L)) (hf : ∀ f ∈ L, f.fine) (hL : L.length ≤ 201) :
    Calls Try.prog 76 #[v] w fun x w' => x = .returned (.int .i64 (sumW L)) ∧ Below w.heap.size w w' := by
  obtain ⟨hl, ad, cap, rfl, h1, h2, h3⟩ := hr0
  have H3 := hide h3; have HF := hide hf
  clear h3 hf
  unfold maxLen at h2
  go_enter Try.func76, Try.ntmps76
  go_wp2_with fail
  go_loopw [3, 4] (fun s i wr => ∃ (k : Nat), i = .int .i64 k ∧ s = .int .i64 (sumW (L.take k)) ∧ k ≤ L.length ∧ Below w.heap.size w wr) (fun _ i _ => L.length - (intOf i).toNat)
  case atStart => exact ⟨0, rfl, by simp [sumW], Nat.zero_le _, Below.refl _ _⟩
  case round =>
    obtain ⟨k, rfl, rfl, hk, hb⟩ := hrel
    by_cases hlt : k < L.length
    · obtain ⟨b, o, rfl, hbw, hc⟩ := H3.out (by omega)
      obtain ⟨s0, s1⟩ := fv_get L k hlt
      have hfk := HF.out _ (List.getElem_mem hlt)
      have hsu := sumW_succ L k hlt
      have hrg := sumW_range (L.take k)
      rw [List.length_take, Nat.min_eq_left (by omega)] at hrg
      obtain ⟨f, hff⟩ : ∃ f, f = L[k] := ⟨_, rfl⟩
      rw [← hff] at s0 s1 hfk hsu
      have c0 : wr.cell? ⟨b, o + k * 2, none⟩ = some (.string f.n) := by rw [hb.cell (p := ⟨b, o + k * 2, none⟩) hbw]; exact hc _ _ s0
      have c1 : wr.cell? ⟨b, o + k * 2 + 1, none⟩ = some (.string f.v) := by rw [hb.cell (p := ⟨b, o + k * 2 + 1, none⟩) hbw]; exact hc _ _ s1
      clear hc s0 s1 hff
      have HU := hide hsu
      have hwr := wt_range f
      generalize sumW (L.take k) = A at *
      clear hsu
      go_wp2_with fail
      refine (specWt f _ hfk).mono ?_; rintro x w1 ⟨rfl, hb1⟩
      generalize wt f = z at *
      go_wp2_with fail
      exact ⟨⟨k + 1, by go_num, by rw [HU.out], by omega, bchain hb hb1⟩, by simp [intOf]; omega⟩
    · obtain rfl : k = L.length := by omega
      rw [List.take_length]
      go_wp2_with fail
      go_ret
      exact ⟨rfl, hb⟩
end Go.Proofs.Ytejmnkabmajebaa
/- Tables of the laws: counted, copied, held against each other, marked, read again; and one that came in. -/
namespace Go.Proofs.Ytejmnkabmajebaa
open Go.RowKit
set_option maxRecDepth 100000
set_option linter.unusedSimpArgs false
set_option linter.unusedVariables false

theorem szTable1 (L : List Fd) (room : Int) (v : Value) (left : Int) (w : World) (hr0 : Reads w v L.length 2 (fv L)) (hf : ∀ f ∈ L, f.fine) (h0 : 0 ≤ left) (h1 : left ≤ 1048576) :
    Calls Try.prog 26 #[.agg #[.int .i64 room, v], .int .i64 left] w fun x w' => x = .returned (.int .i64 (if left - L.length - szL L < 0 then -1 else left - L.length - szL L)) ∧ Below w.heap.size w w' := by
  obtain ⟨ad, cap, rfl, _⟩ := hr0.2
  have HR := hide hr0
  clear hr0
  obtain ⟨R, hR⟩ : ∃ R : Int, R = if left - L.length - szL L < 0 then -1 else left - L.length - szL L := ⟨_, rfl⟩
  rw [← hR]
  go_enter Try.func26, Try.ntmps26
  have HRR := hide hR
  clear hR
  go_wp2_with fail
  refine (szFields L _ left _ (HR.out.new ((Below.refl _ _).alloc (Nat.le_refl _) _)) hf h0 h1).mono ?_; rw [← HRR.out]; rintro x w1 ⟨rfl, hb1⟩
  have hz := HRR.out
  by_cases h : left - L.length - szL L < 0
  · rw [if_pos h] at hz
    subst hz
    go_wp2_with fail
    go_ret
    exact ⟨rfl, (by repeat' (first | (with_reducible exact Below.refl _ _) | (with_reducible refine Below.drew ?_) | (with_reducible refine bo_drewN _ ?_) | (with_reducible refine bo_alloc ?_ _) | (refine bchain ?_ (by with_reducible assumption)) | (with_reducible refine Below.setCell ?_ ?_ _) | go_size))⟩
  · rw [if_neg h] at hz
    have hz0 : ¬ R < 0 := by omega
    clear hz
    go_wp2_with fail
    go_ret
    exact ⟨rfl, (by repeat' (first | (with_reducible exact Below.refl _ _) | (with_reducible refine Below.drew ?_) | (with_reducible refine bo_drewN _ ?_) | (with_reducible refine bo_alloc ?_ _) | (refine bchain ?_ (by with_reducible assumption)) | (with_reducible refine Below.setCell ?_ ?_ _) | go_size))⟩

theorem toTable1 (L : List Fd) (room : Int) (v : Value) (w : World) (hr0 : Reads w v L.length 2 (fv L)) (hL : L.length ≤ 1048576) :
    Calls Try.prog 28 #[.agg #[.int .i64 room, v]] w fun x w' => ∃ v', x = .returned (.agg #[.int .i64 room, v']) ∧ w'.ownsRow w.heap.size 46 2 v' L.length (fv L) ∧ Below w.heap.size w w' := by
  obtain ⟨ad, cap, rfl, _⟩ := hr0.2
  have HR := hide hr0
  clear hr0
  go_enter Try.func28, Try.ntmps28
  go_wp2_with fail
  refine (toFields L _ _ ?c1 hL).mono ?_
  case c1 => exact HR.out.new (by repeat' (first | (with_reducible exact Below.refl _ _) | (with_reducible refine Below.drew ?_) | (with_reducible refine bo_drewN _ ?_) | (with_reducible refine bo_alloc ?_ _) | (refine bchain ?_ (by with_reducible assumption)) | (with_reducible refine Below.setCell ?_ ?_ _) | go_size))
  rintro x w1 ⟨v1, rfl, ho, hb1⟩; have hz1 := hb1.size; (try simp at hz1); have hc1 := fun o => hb1.cell (p := ⟨w.heap.size, o, none⟩) (by first | (simp; done) | (simp; omega) | omega); have hf1 := fun o => hb1.frozen (p := ⟨w.heap.size, o, none⟩) (by first | (simp; done) | (simp; omega) | omega); have hcn1 := fun o => hb1.cell (p := ⟨w.heap.size + 1, o, none⟩) (by first | (simp; done) | (simp; omega) | omega); have hfn1 := fun o => hb1.frozen (p := ⟨w.heap.size + 1, o, none⟩) (by first | (simp; done) | (simp; omega) | omega); have hcm1 := fun o => hb1.cell (p := ⟨w.heap.size + 2, o, none⟩) (by first | (simp; done) | (simp; omega) | omega); have hfm1 := fun o => hb1.frozen (p := ⟨w.heap.size + 2, o, none⟩) (by first | (simp; done) | (simp; omega) | omega)
  have hbw : Below w.heap.size w w1 := (by repeat' (first | (with_reducible exact Below.refl _ _) | (with_reducible refine Below.drew ?_) | (with_reducible refine bo_drewN _ ?_) | (with_reducible refine bo_alloc ?_ _) | (refine bchain ?_ (by with_reducible assumption)) | (with_reducible refine Below.setCell ?_ ?_ _) | go_size))
  obtain ⟨ad1, cap1, rfl, _⟩ := owns_form ho
  have hc2 : ∀ k, (Value.slice ad1 L.length cap1).ownBlock = some k → w.heap.size + 3 ≤ k ∧ k < w1.heap.size := fun k hk => by have := ho.lt k hk; simpa using this
  have HO := hide ho
  clear ho
  have HC := hide hc2
  clear hc2
  go_wp2_with fail
  refine bodyPost_ret (v := .agg #[.int .i64 room, .slice ad1 L.length cap1]) (by simp [results, Try.results28, go_sem, *]) rfl ?_
  have ho : w1.ownsRow w.heap.size 46 2 (.slice ad1 L.length cap1) L.length (fv L) := owns_base HO.out fun k hk => by have := HC.out k hk; omega
  have hv : ∀ k, (Value.slice ad1 L.length cap1).ownBlock = some k → w.heap.size + 3 ≤ k := fun k hk => (HC.out k hk).1
  exact ⟨_, rfl, (by repeat' (first | (with_reducible exact ho) | (with_reducible refine owns_far _ ?_ hv _ _ ?_) | (with_reducible refine World.ownsRow.alloc ?_ _) | (simp; done) | (simp; omega))), (by repeat' (first | (with_reducible exact Below.refl _ _) | (with_reducible refine Below.drew ?_) | (with_reducible refine bo_drewN _ ?_) | (with_reducible refine bo_alloc ?_ _) | (refine bchain ?_ (by with_reducible assumption)) | (with_reducible refine Below.setCell ?_ ?_ _) | go_size))⟩

theorem eqTable1 (L : List Fd) (room : Int) (v v' : Value) (w : World) (hr0 : Reads w v L.length 2 (fv L)) (hr1 : Reads w v' L.length 2 (fv L)) :
    Calls Try.prog 30 #[.agg #[.int .i64 room, v], .agg #[.int .i64 room, v']] w fun x w' => x = .returned (.bool true) ∧ Below w.heap.size w w' := by
  obtain ⟨ad, cap, rfl, _⟩ := hr0.2
  obtain ⟨ad', cap', rfl, _⟩ := hr1.2
  have HR := hide hr0; have HR' := hide hr1
  clear hr0 hr1
  go_enter Try.func30, Try.ntmps30
  go_wp2_with fail
  refine (eqFields L _ _ _ ?c1 ?c2).mono ?_
  case c1 => exact HR.out.new (by repeat' (first | (with_reducible exact Below.refl _ _) | (with_reducible refine Below.drew ?_) | (with_reducible refine bo_drewN _ ?_) | (with_reducible refine bo_alloc ?_ _) | (refine bchain ?_ (by with_reducible assumption)) | (with_reducible refine Below.setCell ?_ ?_ _) | go_size))
  case c2 => exact HR'.out.new (by repeat' (first | (with_reducible exact Below.refl _ _) | (with_reducible refine Below.drew ?_) | (with_reducible refine bo_drewN _ ?_) | (with_reducible refine bo_alloc ?_ _) | (refine bchain ?_ (by with_reducible assumption)) | (with_reducible refine Below.setCell ?_ ?_ _) | go_size))
  rintro x w1 ⟨rfl, hb1⟩
  go_wp2_with fail
  go_ret
  exact ⟨rfl, (by repeat' (first | (with_reducible exact Below.refl _ _) | (with_reducible refine Below.drew ?_) | (with_reducible refine bo_drewN _ ?_) | (with_reducible refine bo_alloc ?_ _) | (refine bchain ?_ (by with_reducible assumption)) | (with_reducible refine Below.setCell ?_ ?_ _) | go_size))⟩

theorem heldTable1 (n k : Nat) (room : Int) (v : Value) (w : World) (hr0 : Reads w v n 2 (mkT k (n * 2))) (hk1 : k + n * 2 ≤ 1000000000) :
    Calls Try.prog 34 #[.agg #[.int .i64 room, v], .int .i64 k] w fun x w' => x = .returned (.int .i64 ((k + n * 2 : Nat) : Int)) ∧ Below w.heap.size w w' := by
  obtain ⟨ad, cap, rfl, _⟩ := hr0.2
  have HR := hide hr0
  clear hr0
  obtain ⟨K, hK⟩ : ∃ K : Nat, K = k + n * 2 := ⟨_, rfl⟩
  rw [← hK]
  have HK := hide hK
  clear hK
  go_enter Try.func34, Try.ntmps34
  go_wp2_with fail
  refine (heldFields n k _ _ ?c1 hk1).mono ?_
  case c1 => exact HR.out.new (by repeat' (first | (with_reducible exact Below.refl _ _) | (with_reducible refine Below.drew ?_) | (with_reducible refine bo_drewN _ ?_) | (with_reducible refine bo_alloc ?_ _) | (refine bchain ?_ (by with_reducible assumption)) | (with_reducible refine Below.setCell ?_ ?_ _) | go_size))
  rw [← HK.out]
  rintro x w1 ⟨rfl, hb1⟩
  go_wp2_with fail
  go_ret
  exact ⟨rfl, (by repeat' (first | (with_reducible exact Below.refl _ _) | (with_reducible refine Below.drew ?_) | (with_reducible refine bo_drewN _ ?_) | (with_reducible refine bo_alloc ?_ _) | (refine bchain ?_ (by with_reducible assumption)) | (with_reducible refine Below.setCell ?_ ?_ _) | go_size))⟩

theorem markTable1 (n k : Nat) (room : Int) (v : Value) (xs : List Value) (lo : Nat) (w : World) (ho : w.ownsRow lo 46 2 v n xs) (hk1 : k + n * 2 ≤ 1000000000) :
    Calls Try.prog 32 #[.agg #[.int .i64 room, v], .int .i64 k] w fun x w' => x = .returned (.int .i64 ((k + n * 2 : Nat) : Int)) ∧ w'.ownsRow lo 46 2 v n (mkT k (n * 2)) ∧ w.grownBy w' v.ownBlock := by
  obtain ⟨ad, cap, rfl, h1, h2⟩ := owns_form ho
  have HO := hide ho
  clear ho
  obtain ⟨K, hK⟩ : ∃ K : Nat, K = k + n * 2 := ⟨_, rfl⟩
  rw [← hK]
  have HK := hide hK
  clear hK
  go_enter Try.func32, Try.ntmps32
  go_wp2_with fail
  refine (markFields n k _ _ lo _ (HO.out.alloc _) hk1).mono ?_
  rw [← HK.out]
  rintro x w1 ⟨rfl, ho1, hg1⟩
  have HO1 := hide ho1
  have HG := hide (gb_trans (gb_new ((Below.refl w.heap.size w).alloc (Nat.le_refl _) _) _) hg1)
  clear ho1 hg1
  go_wp2_with fail
  go_ret
  exact ⟨rfl, HO1.out, HG.out⟩

open Go.ChangeShapes Go.WideShapes Go.ChangeAt Go.Joins Go.Deep in
theorem cells2 {H : Type} {enc : TypeId × Value → H} {W : World} {base : Nat} {spare : Nat → Bool} {held : Bool} {t : TypeId} {f0 f1 : Field} {fuel : Nat} {cs : List Value} {x : DataW H × List MemPlace} (hs : Try.prog.underlying t = some (.struct #[f0, f1])) (hone : oneCellFields Try.prog #[f0, f1] = true) (hC : Try.prog.cellsOf t = 2)
    (h : DataW.trod enc Try.prog W base spare held fuel t cs = some x) :
    ∃ (c0 c1 : Value) (y0 y1 : DataW H × List MemPlace) (n : Nat), cs = [c0, c1] ∧ DataW.trod enc Try.prog W base spare held n f0.type [c0] = some y0 ∧ DataW.trod enc Try.prog W base spare held n f1.type [c1] = some y1 := by
  obtain ⟨y0, y1, n, hx, hl, h0, h1⟩ := trod_struct2 hs h
  obtain ⟨o0, k0⟩ := hone_of hone 0 f0 rfl
  obtain ⟨o1, k1⟩ := hone_of hone 1 f1 rfl
  rw [hC] at hl
  match cs, hl with
  | [c0, c1], _ => exact ⟨c0, c1, y0, y1, n, rfl, by simpa [o0, k0] using h0, by simpa [o1, k1] using h1⟩

open Go.ChangeShapes Go.WideShapes Go.ChangeAt Go.Joins in
theorem open_fcells {H : Type} {enc : TypeId × Value → H} {W : World} {base : Nat} {spare : Nat → Bool} {held : Bool} {fuel : Nat} {cs : List Value} {x : DataW H × List MemPlace} (h : DataW.trod enc Try.prog W base spare held fuel 89 cs = some x) : ∃ f : Fd, cs = f.cs ∧ f.fine := by
  obtain ⟨a0, a1, z0, z1, n', rfl, h0, h1⟩ := cells2 Try.underlying89 (by kernel_rfl) (by kernel_rfl) h
  obtain ⟨s0, e0, _, hs0⟩ := DataW.trod_string Try.underlying9 h0
  obtain ⟨s1, e1, _, hs1⟩ := DataW.trod_string Try.underlying9 h1
  simp only [List.cons.injEq, and_true] at e0 e1
  subst e0 e1
  exact ⟨⟨s0, s1⟩, rfl, by unfold maxLen at hs0; simp only; omega, by unfold maxLen at hs1; simp only; omega⟩

open Go.ChangeShapes Go.WideShapes Go.ChangeAt Go.Joins in
theorem open_Table {H : Type} {enc : TypeId × Value → H} {W : World} {base : Nat} {v : Value} {d : DataW H} {p : List MemPlace} (hv : Value.okWide Try.prog W .any base 49 v)
    (h : DataW.Trod enc Try.prog W 0 (fun _ => true) true 49 v d p) : ∃ (room : Int) (rv : Value) (L : List Fd), v = .agg #[.int .i64 room, rv] ∧ Reads W rv L.length 2 (fv L) ∧ ∀ f ∈ L, f.fine := by
  obtain ⟨c0, c1, y0, y1, n, rfl, _, _, hy0, hy1⟩ := open_agg2 Try.underlying49 (by kernel_rfl) (by kernel_rfl) hv h
  obtain ⟨i0, e0, _⟩ := DataW.trod_int Try.underlying2 hy0
  simp only [List.cons.injEq, and_true] at e0
  subst e0
  obtain ⟨L, hL, hF⟩ := open_rows (α := Fd) ⟨⟨#[]⟩, ⟨#[]⟩⟩ Fd.cs 2 fcs_len Fd.fine Try.underlying47 (by kernel_rfl) (by decide) (fun cs n y hy => open_fcells hy) hy1
  exact ⟨i0, c1, L, rfl, hL, hF⟩
open Go.ChangeShapes Go.WideShapes Go.ChangeAt Go.Joins in
theorem open_Field {H : Type} {enc : TypeId × Value → H} {W : World} {base : Nat} {v : Value} {d : DataW H} {p : List MemPlace} (hv : Value.okWide Try.prog W .any base 89 v)
    (h : DataW.Trod enc Try.prog W 0 (fun _ => true) true 89 v d p) : ∃ f : Fd, v = .agg #[.string f.n, .string f.v] ∧ f.fine := by
  obtain ⟨c0, c1, y0, y1, n, rfl, _, _, hy0, hy1⟩ := open_agg2 Try.underlying89 (by kernel_rfl) (by kernel_rfl) hv h
  obtain ⟨s0, e0, _, hs0⟩ := DataW.trod_string Try.underlying9 hy0
  obtain ⟨s1, e1, _, hs1⟩ := DataW.trod_string Try.underlying9 hy1
  simp only [List.cons.injEq, and_true] at e0 e1
  subst e0 e1
  exact ⟨⟨s0, s1⟩, rfl, by unfold maxLen at hs0; simp only; omega, by unfold maxLen at hs1; simp only; omega⟩
end Go.Proofs.Ytejmnkabmajebaa
/- A Field that is drawn: two texts of at most 100 bytes; of what was there the cursor alone has moved. -/
namespace Go.Proofs.Ytejmnkabmajebaa
open Go.RowKit
set_option maxRecDepth 100000
set_option linter.unusedSimpArgs false
set_option linter.unusedVariables false

/-- A list of four short texts in a block of its own. -/
def TxR (g : Nat) (u : World) (x : Value) : Prop := ∃ (b : Nat) (s0 s1 s2 s3 : ByteArray), x = .slice (some ⟨b, 0, none⟩) 4 4 ∧ b ≠ g ∧ RowIs u b 9 [.string s0, .string s1, .string s2, .string s3] ∧ s0.size ≤ 7 ∧ s1.size ≤ 7 ∧ s2.size ≤ 7 ∧ s3.size ≤ 7
theorem TxR.moves {g : Nat} {u u' : World} {x : Value} (h : TxR g u x) (hm : Moves g u u') : TxR g u' x := by
  obtain ⟨b, s0, s1, s2, s3, rfl, hb, hr, q⟩ := h
  exact ⟨b, s0, s1, s2, s3, rfl, hb, hr.moves hm hb, q⟩
theorem TxR.make (g : Nat) (u : World) (s0 s1 s2 s3 : ByteArray) (h0 : s0.size ≤ 7) (h1 : s1.size ≤ 7) (h2 : s2.size ≤ 7) (h3 : s3.size ≤ 7) (hg : g < u.heap.size) :
    TxR g (u.alloc (.cells #[.string s0, .string s1, .string s2, .string s3] 9)) (.slice (some ⟨u.heap.size, 0, none⟩) 4 4) :=
  ⟨_, s0, s1, s2, s3, rfl, by omega, rowIs_new u 9 [.string s0, .string s1, .string s2, .string s3], h0, h1, h2, h3⟩
/-- A place in memory that holds a short text. -/
def TxC (g : Nat) (u : World) (x : Value) : Prop := ∃ (b k : Nat) (s : ByteArray), x = .pointer (some ⟨b, k, none⟩) ∧ b ≠ g ∧ u.cell? ⟨b, k, none⟩ = some (.string s) ∧ s.size ≤ 7
theorem TxC.moves {g : Nat} {u u' : World} {x : Value} (h : TxC g u x) (hm : Moves g u u') : TxC g u' x := by
  obtain ⟨b, k, s, rfl, hb, hc, hs⟩ := h
  exact ⟨b, k, s, rfl, hb, (hm.cell b k (World.block_lt_of_cell? u ⟨b, k, none⟩ hc) hb).trans hc, hs⟩
def Tx7 (x : Value) : Prop := ∃ s : ByteArray, x = .string s ∧ s.size ≤ 7
def Num4 (x : Value) : Prop := ∃ z : Int, x = .int .i64 z ∧ 0 ≤ z ∧ z < 4
def Fd7 (x : Value) : Prop := ∃ f : Fd, x = .agg #[.string f.n, .string f.v] ∧ f.n.size ≤ 7 ∧ f.v.size ≤ 7
/-- A Field in a new block; d: it has been written. -/
def FdB (lo : Nat) (u : World) (x : Value) (d : Prop) : Prop := ∃ (b : Nat) (cs : List Value), x = .pointer (some ⟨b, 0, none⟩) ∧ lo ≤ b ∧ (RowIs u b 46 cs ∧ ∃ v0 v1, cs = [v0, v1]) ∧ (d → ∃ f : Fd, cs = f.cs ∧ f.n.size ≤ 7 ∧ f.v.size ≤ 7)
theorem FdB.moves {g lo : Nat} {u u' : World} {x : Value} {d d' : Prop} (h : FdB lo u x d) (hm : Moves g u u') (hg : g < lo) (hd : d' → d) : FdB lo u' x d' := by
  obtain ⟨b, cs, rfl, hb, ⟨hr, h2⟩, hc⟩ := h
  exact ⟨b, cs, rfl, hb, ⟨hr.moves hm (by omega), h2⟩, fun k => hc (hd k)⟩
theorem cell4 {u : World} {b : Nat} {ty : TypeId} {s0 s1 s2 s3 : ByteArray} (h : RowIs u b ty [.string s0, .string s1, .string s2, .string s3]) (k : Nat) (hk : k < 4) (q0 : s0.size ≤ 7) (q1 : s1.size ≤ 7) (q2 : s2.size ≤ 7) (q3 : s3.size ≤ 7) :
    ∃ s : ByteArray, u.cell? ⟨b, k, none⟩ = some (.string s) ∧ s.size ≤ 7 := by
  match k, hk with
  | 0, _ => exact ⟨s0, h.cell rfl, q0⟩
  | 1, _ => exact ⟨s1, h.cell rfl, q1⟩
  | 2, _ => exact ⟨s2, h.cell rfl, q2⟩
  | 3, _ => exact ⟨s3, h.cell rfl, q3⟩

theorem make_bytes (R : Nat) (h : R ≤ 1048576) : ∃ M : Array Value, M.size = R ∧ (∀ u ∈ M.toList, ByteVal u) ∧ ∀ X : World, (Instr.makeSlice 22 (.int .i64 (R : Int)) (.int .i64 (R : Int))).run Try.prog X = .ok (.slice (some ⟨X.heap.size, 0, none⟩) R R) (X.alloc (.cells M 5)) := by
  obtain ⟨i0, hi, hz0, hz1, hz2⟩ := info_parts (P := Try.prog) (e := 5) (z := .int .u8 0) (size := 1) (bytes := 1) (by kernel_rfl)
  refine ⟨madeCells (Value.int .u8 0).cells (R * 1), by rw [size_madeCells]; omega, ?_, fun X => ?_⟩
  · intro u hu
    have : u = .int .u8 0 := by
      simp only [madeCells, Value.cells] at hu
      simp at hu
      obtain ⟨j, _, hj⟩ := hu
      simp [Nat.mod_one] at hj
      exact hj.symm
    exact ⟨0, this, by omega, by omega⟩
  · have h := run_make (P := Try.prog) X 22 5 i0 (.int .u8 0) Try.underlying22 hi hz0 .i64 .i64 (R : Int) (R : Int) (by omega) (by omega) (by rw [hz2]; omega) (by omega)
    rw [hz1] at h
    simpa using h

set_option maxHeartbeats 4000000 in
theorem drawField (g B : Nat) (w : World) (hc : Cur w g B) :
    Calls Try.prog 62 #[.pointer (some ⟨g, 0, none⟩)] w fun e w' => ∃ f : Fd, f.n.size ≤ 100 ∧ f.v.size ≤ 100 ∧ e = .returned (.agg #[.string f.n, .string f.v]) ∧ Cur w' g B ∧ Moves g w w' := by
  have hgw := hc.lt
  go_enter Try.func62, Try.ntmps62
  go_wp2_with fail
  generalize hw1 : w.alloc _ = w1
  have hc1 : Cur w1 g B := by rw [← hw1]; exact hc.alloc _
  have hm1 : Moves g w w1 := by rw [← hw1]; exact (Moves.refl g w).alloc _
  have hr1 : RowIs w1 w.heap.size 46 [.string ⟨#[]⟩, .string ⟨#[]⟩] := by rw [← hw1]; exact rowIs_new w 46 [.string ⟨#[]⟩, .string ⟨#[]⟩]
  have hs1 : w1.heap.size = w.heap.size + 1 := by rw [← hw1]; simp
  clear hw1
  go_cut [3] (fun x wc => ∃ (b : Nat) (f : Fd), x = .pointer (some ⟨b, 0, none⟩) ∧ w1.heap.size ≤ b ∧ RowIs wc b 46 f.cs ∧ f.n.size ≤ 100 ∧ f.v.size ≤ 100 ∧ Cur wc g B ∧ Moves g w1 wc)
  case first =>
    refine region_inv (by kernel_rfl) (fun (l : Array Bool) (a : Act) (u : World) => ∃ x3 x4 x5 x6 x7 x8 x9 x10 x11 x12 x13 x14, a = ⟨#[.pointer (some ⟨g, 0, none⟩), undef, .pointer (some ⟨w.heap.size, 0, none⟩), x3, x4, x5, x6, x7, x8, x9, x10, x11, x12, x13, x14, undef, undef, undef, undef, undef, undef, undef, undef, undef, undef, undef, undef, undef, undef, undef, undef, undef, undef, undef, undef, undef, undef, undef, undef, undef, undef, undef, undef, undef], []⟩ ∧ Cur u g B ∧ Moves g w1 u ∧ (l.getD 0 false = true → l.getD 12 false = false → TxR g u x4) ∧ (l.getD 1 false = true → x5 = .pointer (some ⟨g, 0, none⟩)) ∧ (l.getD 2 false = true → Num4 x6) ∧ (l.getD 3 false = true → l.getD 12 false = false → TxC g u x7) ∧ (l.getD 4 false = true → Tx7 x8) ∧ (l.getD 5 false = true → l.getD 12 false = false → TxR g u x9) ∧ (l.getD 6 false = true → x10 = .pointer (some ⟨g, 0, none⟩)) ∧ (l.getD 7 false = true → Num4 x11) ∧ (l.getD 8 false = true → l.getD 12 false = false → TxC g u x12) ∧ (l.getD 9 false = true → Tx7 x13) ∧ (l.getD 10 false = true → Fd7 x14) ∧ (l.getD 11 false = true → FdB w1.heap.size u x3 (l.getD 12 false = true)) ∧ (l.getD 12 false = true → ∀ j, j < 12 → l.getD j false = true)) ?h0 ?hs ?he
    case h0 => exact ⟨undef, undef, undef, undef, undef, undef, undef, undef, undef, undef, undef, undef, rfl, hc1.drew, (Moves.refl g w1).drew, by simp, by simp, by simp, by simp, by simp, by simp, by simp, by simp, by simp, by simp, by simp, by simp, by simp⟩
    case he =>
      rintro l a u ⟨x3, x4, x5, x6, x7, x8, x9, x10, x11, x12, x13, x14, rfl, hcu, hmu, f0, f1, f2, f3, f4, f5, f6, f7, f8, f9, f10, f11, f12⟩ hl hr
      have hall := all_listed hl (by kernel_rfl) hr
      obtain ⟨b, cs, rfl, hb, hrow, hcs⟩ := f11 (hall 11 (by decide))
      obtain ⟨f, rfl, hn, hv⟩ := hcs (hall 12 (by decide))
      go_wp2_with fail
      go_meet
      exact ⟨b, f, rfl, hb, hrow.1, by omega, by omega, hcu, hmu⟩
    case hs =>
      rintro l a u i ⟨x3, x4, x5, x6, x7, x8, x9, x10, x11, x12, x13, x14, rfl, hcu, hmu, f0, f1, f2, f3, f4, f5, f6, f7, f8, f9, f10, f11, f12⟩ hl hr
      have hsu := hmu.size
      have hlt := ready_lt hr
      match i, hlt, hr with
      | 0, _, hr =>
        refine wpOp_step (o := _) rfl (fun K hK => ?_)
        have h12 := not_last hr hl f12 (by decide)
        go_simp
        refine hK _ _ ?_; clear hK K
        exact ⟨_, _, _, _, _, _, _, _, _, _, _, _, rfl, hcu.alloc _, hmu.alloc _, fun _ _ => TxR.make g u _ _ _ _ (by decide) (by decide) (by decide) (by decide) (by omega), fun h => f1 (set_or h (by decide)), fun h => f2 (set_or h (by decide)), fun h n => (f3 (set_or h (by decide)) (set_same n)).moves ((Moves.refl g u).alloc _), fun h => f4 (set_or h (by decide)), fun h n => (f5 (set_or h (by decide)) (set_same n)).moves ((Moves.refl g u).alloc _), fun h => f6 (set_or h (by decide)), fun h => f7 (set_or h (by decide)), fun h n => (f8 (set_or h (by decide)) (set_same n)).moves ((Moves.refl g u).alloc _), fun h => f9 (set_or h (by decide)), fun h => f10 (set_or h (by decide)), fun h => (f11 (set_or h (by decide))).moves ((Moves.refl g u).alloc _) (by omega) (fun k => set_or k (by decide)), last_kept hr hl f12 (by decide)⟩
      | 1, _, hr =>
        refine wpOp_step (o := _) rfl (fun K hK => ?_)
        go_simp
        refine hK _ _ ?_; clear hK K
        exact ⟨_, _, _, _, _, _, _, _, _, _, _, _, rfl, hcu, hmu, fun h n => (f0 (set_or h (by decide)) (set_same n)).moves (Moves.refl g u), fun _ => rfl, fun h => f2 (set_or h (by decide)), fun h n => (f3 (set_or h (by decide)) (set_same n)).moves (Moves.refl g u), fun h => f4 (set_or h (by decide)), fun h n => (f5 (set_or h (by decide)) (set_same n)).moves (Moves.refl g u), fun h => f6 (set_or h (by decide)), fun h => f7 (set_or h (by decide)), fun h n => (f8 (set_or h (by decide)) (set_same n)).moves (Moves.refl g u), fun h => f9 (set_or h (by decide)), fun h => f10 (set_or h (by decide)), fun h => (f11 (set_or h (by decide))).moves (Moves.refl g u) (by omega) (fun k => set_or k (by decide)), last_kept hr hl f12 (by decide)⟩
      | 2, _, hr =>
        obtain rfl := f1 (ready_waits hr (j := 1) (by kernel_rfl))
        refine wpOp_step (o := _) rfl (fun K hK => ?_)
        go_simp
        refine (below1 g B 4 _ hcu (by omega)).mono ?_; rintro e u1 ⟨z, z0, z1, _, rfl, hc2, hm2⟩
        have z4 : z < 4 := z1 (by omega)
        refine hK _ _ ?_; clear hK K
        exact ⟨_, _, _, _, _, _, _, _, _, _, _, _, rfl, hc2, hmu.trans hm2, fun h n => (f0 (set_or h (by decide)) (set_same n)).moves hm2, fun h => f1 (set_or h (by decide)), fun _ => ⟨z, rfl, z0, z4⟩, fun h n => (f3 (set_or h (by decide)) (set_same n)).moves hm2, fun h => f4 (set_or h (by decide)), fun h n => (f5 (set_or h (by decide)) (set_same n)).moves hm2, fun h => f6 (set_or h (by decide)), fun h => f7 (set_or h (by decide)), fun h n => (f8 (set_or h (by decide)) (set_same n)).moves hm2, fun h => f9 (set_or h (by decide)), fun h => f10 (set_or h (by decide)), fun h => (f11 (set_or h (by decide))).moves hm2 (by omega) (fun k => set_or k (by decide)), last_kept hr hl f12 (by decide)⟩
      | 3, _, hr =>
        have TR := f0 (ready_waits hr (j := 0) (by kernel_rfl)) (not_last hr hl f12 (by decide))
        have TN := f2 (ready_waits hr (j := 2) (by kernel_rfl))
        obtain ⟨b, s0, s1, s2, s3, rfl, hbg, hrow, q0, q1, q2, q3⟩ := TR
        obtain ⟨z, rfl, z0, z4⟩ := TN
        obtain ⟨k, rfl⟩ : ∃ k : Nat, z = k := ⟨z.toNat, by omega⟩
        have hk : k < 4 := by omega
        clear z0
        have hcell := cell4 hrow k hk q0 q1 q2 q3
        have z0 : (0 : Int) ≤ k := by omega
        refine wpOp_step (o := _) rfl (fun K hK => ?_)
        go_simp
        refine hK _ _ ?_; clear hK K
        exact ⟨_, _, _, _, _, _, _, _, _, _, _, _, rfl, hcu, hmu, fun h n => (f0 (set_or h (by decide)) (set_same n)).moves (Moves.refl g u), fun h => f1 (set_or h (by decide)), fun h => f2 (set_or h (by decide)), fun _ _ => ⟨b, k, hcell.choose, by first | rfl | simp, hbg, hcell.choose_spec⟩, fun h => f4 (set_or h (by decide)), fun h n => (f5 (set_or h (by decide)) (set_same n)).moves (Moves.refl g u), fun h => f6 (set_or h (by decide)), fun h => f7 (set_or h (by decide)), fun h n => (f8 (set_or h (by decide)) (set_same n)).moves (Moves.refl g u), fun h => f9 (set_or h (by decide)), fun h => f10 (set_or h (by decide)), fun h => (f11 (set_or h (by decide))).moves (Moves.refl g u) (by omega) (fun k => set_or k (by decide)), last_kept hr hl f12 (by decide)⟩
      | 4, _, hr =>
        obtain ⟨b, k, s, rfl, hbg, hcl, hs7⟩ := f3 (ready_waits hr (j := 3) (by kernel_rfl)) (not_last hr hl f12 (by decide))
        refine wpOp_step (o := _) rfl (fun K hK => ?_)
        go_simp
        refine hK _ _ ?_; clear hK K
        exact ⟨_, _, _, _, _, _, _, _, _, _, _, _, rfl, hcu, hmu, fun h n => (f0 (set_or h (by decide)) (set_same n)).moves (Moves.refl g u), fun h => f1 (set_or h (by decide)), fun h => f2 (set_or h (by decide)), fun h n => (f3 (set_or h (by decide)) (set_same n)).moves (Moves.refl g u), fun _ => ⟨s, rfl, hs7⟩, fun h n => (f5 (set_or h (by decide)) (set_same n)).moves (Moves.refl g u), fun h => f6 (set_or h (by decide)), fun h => f7 (set_or h (by decide)), fun h n => (f8 (set_or h (by decide)) (set_same n)).moves (Moves.refl g u), fun h => f9 (set_or h (by decide)), fun h => f10 (set_or h (by decide)), fun h => (f11 (set_or h (by decide))).moves (Moves.refl g u) (by omega) (fun k => set_or k (by decide)), last_kept hr hl f12 (by decide)⟩
      | 5, _, hr =>
        refine wpOp_step (o := _) rfl (fun K hK => ?_)
        have h12 := not_last hr hl f12 (by decide)
        go_simp
        refine hK _ _ ?_; clear hK K
        exact ⟨_, _, _, _, _, _, _, _, _, _, _, _, rfl, hcu.alloc _, hmu.alloc _, fun h n => (f0 (set_or h (by decide)) (set_same n)).moves ((Moves.refl g u).alloc _), fun h => f1 (set_or h (by decide)), fun h => f2 (set_or h (by decide)), fun h n => (f3 (set_or h (by decide)) (set_same n)).moves ((Moves.refl g u).alloc _), fun h => f4 (set_or h (by decide)), fun _ _ => TxR.make g u _ _ _ _ (by decide) (by decide) (by decide) (by decide) (by omega), fun h => f6 (set_or h (by decide)), fun h => f7 (set_or h (by decide)), fun h n => (f8 (set_or h (by decide)) (set_same n)).moves ((Moves.refl g u).alloc _), fun h => f9 (set_or h (by decide)), fun h => f10 (set_or h (by decide)), fun h => (f11 (set_or h (by decide))).moves ((Moves.refl g u).alloc _) (by omega) (fun k => set_or k (by decide)), last_kept hr hl f12 (by decide)⟩
      | 6, _, hr =>
        refine wpOp_step (o := _) rfl (fun K hK => ?_)
        go_simp
        refine hK _ _ ?_; clear hK K
        exact ⟨_, _, _, _, _, _, _, _, _, _, _, _, rfl, hcu, hmu, fun h n => (f0 (set_or h (by decide)) (set_same n)).moves (Moves.refl g u), fun h => f1 (set_or h (by decide)), fun h => f2 (set_or h (by decide)), fun h n => (f3 (set_or h (by decide)) (set_same n)).moves (Moves.refl g u), fun h => f4 (set_or h (by decide)), fun h n => (f5 (set_or h (by decide)) (set_same n)).moves (Moves.refl g u), fun _ => rfl, fun h => f7 (set_or h (by decide)), fun h n => (f8 (set_or h (by decide)) (set_same n)).moves (Moves.refl g u), fun h => f9 (set_or h (by decide)), fun h => f10 (set_or h (by decide)), fun h => (f11 (set_or h (by decide))).moves (Moves.refl g u) (by omega) (fun k => set_or k (by decide)), last_kept hr hl f12 (by decide)⟩
      | 7, _, hr =>
        obtain rfl := f6 (ready_waits hr (j := 6) (by kernel_rfl))
        refine wpOp_step (o := _) rfl (fun K hK => ?_)
        go_simp
        refine (below1 g B 4 _ hcu (by omega)).mono ?_; rintro e u1 ⟨z, z0, z1, _, rfl, hc2, hm2⟩
        have z4 : z < 4 := z1 (by omega)
        refine hK _ _ ?_; clear hK K
        exact ⟨_, _, _, _, _, _, _, _, _, _, _, _, rfl, hc2, hmu.trans hm2, fun h n => (f0 (set_or h (by decide)) (set_same n)).moves hm2, fun h => f1 (set_or h (by decide)), fun h => f2 (set_or h (by decide)), fun h n => (f3 (set_or h (by decide)) (set_same n)).moves hm2, fun h => f4 (set_or h (by decide)), fun h n => (f5 (set_or h (by decide)) (set_same n)).moves hm2, fun h => f6 (set_or h (by decide)), fun _ => ⟨z, rfl, z0, z4⟩, fun h n => (f8 (set_or h (by decide)) (set_same n)).moves hm2, fun h => f9 (set_or h (by decide)), fun h => f10 (set_or h (by decide)), fun h => (f11 (set_or h (by decide))).moves hm2 (by omega) (fun k => set_or k (by decide)), last_kept hr hl f12 (by decide)⟩
      | 8, _, hr =>
        have TR := f5 (ready_waits hr (j := 5) (by kernel_rfl)) (not_last hr hl f12 (by decide))
        have TN := f7 (ready_waits hr (j := 7) (by kernel_rfl))
        obtain ⟨b, s0, s1, s2, s3, rfl, hbg, hrow, q0, q1, q2, q3⟩ := TR
        obtain ⟨z, rfl, z0, z4⟩ := TN
        obtain ⟨k, rfl⟩ : ∃ k : Nat, z = k := ⟨z.toNat, by omega⟩
        have hk : k < 4 := by omega
        clear z0
        have hcell := cell4 hrow k hk q0 q1 q2 q3
        have z0 : (0 : Int) ≤ k := by omega
        refine wpOp_step (o := _) rfl (fun K hK => ?_)
        go_simp
        refine hK _ _ ?_; clear hK K
        exact ⟨_, _, _, _, _, _, _, _, _, _, _, _, rfl, hcu, hmu, fun h n => (f0 (set_or h (by decide)) (set_same n)).moves (Moves.refl g u), fun h => f1 (set_or h (by decide)), fun h => f2 (set_or h (by decide)), fun h n => (f3 (set_or h (by decide)) (set_same n)).moves (Moves.refl g u), fun h => f4 (set_or h (by decide)), fun h n => (f5 (set_or h (by decide)) (set_same n)).moves (Moves.refl g u), fun h => f6 (set_or h (by decide)), fun h => f7 (set_or h (by decide)), fun _ _ => ⟨b, k, hcell.choose, by first | rfl | simp, hbg, hcell.choose_spec⟩, fun h => f9 (set_or h (by decide)), fun h => f10 (set_or h (by decide)), fun h => (f11 (set_or h (by decide))).moves (Moves.refl g u) (by omega) (fun k => set_or k (by decide)), last_kept hr hl f12 (by decide)⟩
      | 9, _, hr =>
        obtain ⟨b, k, s, rfl, hbg, hcl, hs7⟩ := f8 (ready_waits hr (j := 8) (by kernel_rfl)) (not_last hr hl f12 (by decide))
        refine wpOp_step (o := _) rfl (fun K hK => ?_)
        go_simp
        refine hK _ _ ?_; clear hK K
        exact ⟨_, _, _, _, _, _, _, _, _, _, _, _, rfl, hcu, hmu, fun h n => (f0 (set_or h (by decide)) (set_same n)).moves (Moves.refl g u), fun h => f1 (set_or h (by decide)), fun h => f2 (set_or h (by decide)), fun h n => (f3 (set_or h (by decide)) (set_same n)).moves (Moves.refl g u), fun h => f4 (set_or h (by decide)), fun h n => (f5 (set_or h (by decide)) (set_same n)).moves (Moves.refl g u), fun h => f6 (set_or h (by decide)), fun h => f7 (set_or h (by decide)), fun h n => (f8 (set_or h (by decide)) (set_same n)).moves (Moves.refl g u), fun _ => ⟨s, rfl, hs7⟩, fun h => f10 (set_or h (by decide)), fun h => (f11 (set_or h (by decide))).moves (Moves.refl g u) (by omega) (fun k => set_or k (by decide)), last_kept hr hl f12 (by decide)⟩
      | 10, _, hr =>
        obtain ⟨s, rfl, hs7⟩ := f4 (ready_waits hr (j := 4) (by kernel_rfl))
        obtain ⟨t, rfl, ht7⟩ := f9 (ready_waits hr (j := 9) (by kernel_rfl))
        refine wpOp_step (o := _) rfl (fun K hK => ?_)
        go_simp
        refine hK _ _ ?_; clear hK K
        exact ⟨_, _, _, _, _, _, _, _, _, _, _, _, rfl, hcu, hmu, fun h n => (f0 (set_or h (by decide)) (set_same n)).moves (Moves.refl g u), fun h => f1 (set_or h (by decide)), fun h => f2 (set_or h (by decide)), fun h n => (f3 (set_or h (by decide)) (set_same n)).moves (Moves.refl g u), fun h => f4 (set_or h (by decide)), fun h n => (f5 (set_or h (by decide)) (set_same n)).moves (Moves.refl g u), fun h => f6 (set_or h (by decide)), fun h => f7 (set_or h (by decide)), fun h n => (f8 (set_or h (by decide)) (set_same n)).moves (Moves.refl g u), fun h => f9 (set_or h (by decide)), fun _ => ⟨⟨s, t⟩, rfl, hs7, ht7⟩, fun h => (f11 (set_or h (by decide))).moves (Moves.refl g u) (by omega) (fun k => set_or k (by decide)), last_kept hr hl f12 (by decide)⟩
      | 11, _, hr =>
        refine wpOp_step (o := _) rfl (fun K hK => ?_)
        have h12 := not_last hr hl f12 (by decide)
        go_simp
        refine hK _ _ ?_; clear hK K
        exact ⟨_, _, _, _, _, _, _, _, _, _, _, _, rfl, hcu.alloc _, hmu.alloc _, fun h n => (f0 (set_or h (by decide)) (set_same n)).moves ((Moves.refl g u).alloc _), fun h => f1 (set_or h (by decide)), fun h => f2 (set_or h (by decide)), fun h n => (f3 (set_or h (by decide)) (set_same n)).moves ((Moves.refl g u).alloc _), fun h => f4 (set_or h (by decide)), fun h n => (f5 (set_or h (by decide)) (set_same n)).moves ((Moves.refl g u).alloc _), fun h => f6 (set_or h (by decide)), fun h => f7 (set_or h (by decide)), fun h n => (f8 (set_or h (by decide)) (set_same n)).moves ((Moves.refl g u).alloc _), fun h => f9 (set_or h (by decide)), fun h => f10 (set_or h (by decide)), fun _ => ⟨u.heap.size, _, rfl, hsu, ⟨rowIs_new u 46 [.string ⟨#[]⟩, .string ⟨#[]⟩], _, _, rfl⟩, fun k => by rw [set_or k (by decide)] at h12; cases h12⟩, last_kept hr hl f12 (by decide)⟩
      | 12, _, hr =>
        obtain ⟨f, rfl, hn, hv⟩ := f10 (ready_waits hr (j := 10) (by kernel_rfl))
        obtain ⟨b, cs, rfl, hb, hrow, _⟩ := f11 (ready_waits hr (j := 11) (by kernel_rfl))
        obtain ⟨v0, v1, rfl⟩ := hrow.2
        have c0 := hrow.1.cell (j := 0) rfl
        have c1 := hrow.1.cell (j := 1) rfl
        have e0 := hrow.1.frozen 0
        have e1 := hrow.1.frozen 1
        have hbl := hrow.1.lt
        refine wpOp_step (o := _) rfl (fun K hK => ?_)
        go_simp
        refine hK _ _ ?_; clear hK K
        exact ⟨_, _, _, _, _, _, _, _, _, _, _, _, rfl, (hcu.set _ _ (by show g < b; omega)).set _ _ (by show g < b; omega), (hmu.setNew _ (by show w1.heap.size ≤ b; omega) _).setNew _ (by show w1.heap.size ≤ b; omega) _, fun h n => absurd n (by rw [set_is (by rw [hl]; decide)]; simp), fun h => f1 (set_or h (by decide)), fun h => f2 (set_or h (by decide)), fun h n => absurd n (by rw [set_is (by rw [hl]; decide)]; simp), fun h => f4 (set_or h (by decide)), fun h n => absurd n (by rw [set_is (by rw [hl]; decide)]; simp), fun h => f6 (set_or h (by decide)), fun h => f7 (set_or h (by decide)), fun h n => absurd n (by rw [set_is (by rw [hl]; decide)]; simp), fun h => f9 (set_or h (by decide)), fun h => f10 (set_or h (by decide)), fun _ => ⟨b, _, rfl, hb, ⟨(hrow.1.set 0 _).set 1 _, _, _, rfl⟩, fun _ => ⟨f, rfl, hn, hv⟩⟩, last_comes hr (by kernel_rfl)⟩
      | n + 13, h, _ => exact absurd h (by show ¬ n + 13 < 13; omega)
  case rest =>
    obtain ⟨b, f, rfl, hb, hrow, hn, hv, hcc, hmc⟩ := hcut
    go_wp2_with fail
    refine (once1 g B 4 _ hcc (by omega)).mono ?_; rintro e w2 ⟨v, rfl, hc2, hm2⟩
    replace hrow := hrow.moves hm2 (by omega)
    replace hmc := hmc.trans hm2
    clear hm2 hcc
    go_upto_if 16 with fail
    go_cut [] (fun wc => ∃ f : Fd, RowIs wc b 46 f.cs ∧ f.n.size ≤ 100 ∧ f.v.size ≤ 100 ∧ Cur wc g B ∧ Moves g w1 wc)
    case first =>
      cases v
      · go_wp2_with fail
        go_meet
        exact ⟨f, hrow, hn, hv, hc2, hmc⟩
      · go_wp2_with fail
        refine (text1 g B 9 _ hc2 (by omega) (by omega)).mono ?_; rintro e w3 ⟨t, ht, rfl, hc3, hm3⟩
        replace hrow := hrow.moves hm3 (by omega)
        replace hmc := hmc.trans hm3
        have c1 := hrow.cell (j := 1) rfl
        have e1 := hrow.frozen 1
        go_wp2_with fail
        go_meet
        exact ⟨⟨f.n, t⟩, hrow.set 1 _, hn, by show t.size ≤ 100; omega, hc3.set ⟨b, 1, none⟩ (.string t) (by show g < b; omega), hmc.setNew ⟨b, 1, none⟩ (by show w1.heap.size ≤ b; omega) (.string t)⟩
    case rest =>
    clear hrow hn hv hc2 hmc
    obtain ⟨f, hrow, hn, hv, hc2, hmc⟩ := hcut
    go_wp2_with fail
    refine (once1 g B 20 _ hc2 (by omega)).mono ?_; rintro e w5 ⟨v5, rfl, hc5, hm5⟩
    replace hrow := hrow.moves hm5 (by omega)
    replace hmc := hmc.trans hm5
    clear hm5 hc2
    go_upto_if 21 with fail
    go_cut [] (fun wc => ∃ f : Fd, RowIs wc b 46 f.cs ∧ f.n.size ≤ 100 ∧ f.v.size ≤ 100 ∧ Cur wc g B ∧ Moves g w1 wc)
    case first =>
      cases v5
      · go_wp2_with fail
        go_meet
        exact ⟨f, hrow, hn, hv, hc5, hmc⟩
      go_wp2_with fail
      refine (below1 g B 3 _ hc5 (by omega)).mono ?_; rintro e w6 ⟨z, z0, z1, _, rfl, hc6, hm6⟩
      replace hrow := hrow.moves hm6 (by omega)
      replace hmc := hmc.trans hm6
      have z3 := z1 (by omega)
      clear hm6 z1
      obtain rfl | rfl | rfl : z = 0 ∨ z = 1 ∨ z = 2 := by omega
      · have c0 := hrow.cell (j := 0) rfl
        have e0 := hrow.frozen 0
        go_wp2_with fail
        go_meet
        exact ⟨⟨⟨#[]⟩, f.v⟩, hrow.set 0 _, by show (0 : Nat) ≤ 100; omega, hv, hc6.set ⟨b, 0, none⟩ (.string ⟨#[]⟩) (by show g < b; omega), hmc.setNew ⟨b, 0, none⟩ (by show w1.heap.size ≤ b; omega) (.string ⟨#[]⟩)⟩
      · go_wp2_with fail
        refine (below1 g B 2 _ hc6 (by omega)).mono ?_; rintro e w7 ⟨y, y0, y1, _, rfl, hc7, hm7⟩
        replace hrow := hrow.moves hm7 (by omega)
        replace hmc := hmc.trans hm7
        have y2 := y1 (by omega)
        clear hm7 y1
        have hg7 : g < w7.heap.size := hc7.lt
        have hbb := hrow.lt
        have c0 := hrow.cell (j := 0) rfl
        have c1 := hrow.cell (j := 1) rfl
        have e0 := hrow.frozen 0
        have e1 := hrow.frozen 1
        obtain rfl | rfl : y = 0 ∨ y = 1 := by omega
        · obtain ⟨M, hM, hMb, hmk⟩ := make_bytes 40 (by omega)
          have hmk1 : ∀ X : World, (Instr.makeSlice 22 (.int .i64 40) (.int .i64 40)).run Try.prog X = .ok (.slice (some ⟨X.heap.size, 0, none⟩) 40 40) (X.alloc (.cells M 5)) := hmk
          obtain ⟨s, hs, hcv⟩ := row_to_string (owns_made w7 M 5 1 40 (by simpa using hM) (by omega)) hMb
          clear hmk hMb hM
          go_wp2_with fail
          go_meet
          exact ⟨⟨s, f.v⟩, (hrow.set 0 (.string s)).alloc _, by show s.size ≤ 100; omega, hv, (hc7.set ⟨b, 0, none⟩ (.string s) (by show g < b; omega)).alloc _, (hmc.setNew ⟨b, 0, none⟩ (by show w1.heap.size ≤ b; omega) (.string s)).alloc _⟩
        · obtain ⟨M, hM, hMb, hmk⟩ := make_bytes 41 (by omega)
          have hmk1 : ∀ X : World, (Instr.makeSlice 22 (.int .i64 41) (.int .i64 41)).run Try.prog X = .ok (.slice (some ⟨X.heap.size, 0, none⟩) 41 41) (X.alloc (.cells M 5)) := hmk
          obtain ⟨s, hs, hcv⟩ := row_to_string (owns_made w7 M 5 1 41 (by simpa using hM) (by omega)) hMb
          clear hmk hMb hM
          go_wp2_with fail
          go_meet
          exact ⟨⟨s, f.v⟩, (hrow.set 0 (.string s)).alloc _, by show s.size ≤ 100; omega, hv, (hc7.set ⟨b, 0, none⟩ (.string s) (by show g < b; omega)).alloc _, (hmc.setNew ⟨b, 0, none⟩ (by show w1.heap.size ≤ b; omega) (.string s)).alloc _⟩
      · go_wp2_with fail
        refine (below1 g B 2 _ hc6 (by omega)).mono ?_; rintro e w7 ⟨y, y0, y1, _, rfl, hc7, hm7⟩
        replace hrow := hrow.moves hm7 (by omega)
        replace hmc := hmc.trans hm7
        have y2 := y1 (by omega)
        clear hm7 y1
        have hg7 : g < w7.heap.size := hc7.lt
        have hbb := hrow.lt
        have c0 := hrow.cell (j := 0) rfl
        have c1 := hrow.cell (j := 1) rfl
        have e0 := hrow.frozen 0
        have e1 := hrow.frozen 1
        obtain rfl | rfl : y = 0 ∨ y = 1 := by omega
        · obtain ⟨M, hM, hMb, hmk⟩ := make_bytes 60 (by omega)
          have hmk1 : ∀ X : World, (Instr.makeSlice 22 (.int .i64 60) (.int .i64 60)).run Try.prog X = .ok (.slice (some ⟨X.heap.size, 0, none⟩) 60 60) (X.alloc (.cells M 5)) := hmk
          obtain ⟨s, hs, hcv⟩ := row_to_string (owns_made w7 M 5 1 60 (by simpa using hM) (by omega)) hMb
          clear hmk hMb hM
          go_wp2_with fail
          go_meet
          exact ⟨⟨f.n, s⟩, (hrow.set 1 (.string s)).alloc _, hn, by show s.size ≤ 100; omega, (hc7.set ⟨b, 1, none⟩ (.string s) (by show g < b; omega)).alloc _, (hmc.setNew ⟨b, 1, none⟩ (by show w1.heap.size ≤ b; omega) (.string s)).alloc _⟩
        · obtain ⟨M, hM, hMb, hmk⟩ := make_bytes 61 (by omega)
          have hmk1 : ∀ X : World, (Instr.makeSlice 22 (.int .i64 61) (.int .i64 61)).run Try.prog X = .ok (.slice (some ⟨X.heap.size, 0, none⟩) 61 61) (X.alloc (.cells M 5)) := hmk
          obtain ⟨s, hs, hcv⟩ := row_to_string (owns_made w7 M 5 1 61 (by simpa using hM) (by omega)) hMb
          clear hmk hMb hM
          go_wp2_with fail
          go_meet
          exact ⟨⟨f.n, s⟩, (hrow.set 1 (.string s)).alloc _, hn, by show s.size ≤ 100; omega, (hc7.set ⟨b, 1, none⟩ (.string s) (by show g < b; omega)).alloc _, (hmc.setNew ⟨b, 1, none⟩ (by show w1.heap.size ≤ b; omega) (.string s)).alloc _⟩
    case rest =>
    clear hrow hn hv hc5 hmc
    obtain ⟨f, hrow, hn, hv, hc5, hmc⟩ := hcut
    have hgb : g < b := by omega
    have hbw : w.heap.size ≠ b := by omega
    have hbw2 : b ≠ w.heap.size := by omega
    have c0 := hrow.cell (j := 0) rfl
    have c1 := hrow.cell (j := 1) rfl
    have hr5 := hr1.moves hmc (by omega)
    have r0 := hr5.cell (j := 0) rfl
    have r1 := hr5.cell (j := 1) rfl
    have p0 := hr5.frozen 0
    have p1 := hr5.frozen 1
    have hwb := hr5.lt
    have hbb := hrow.lt
    go_wp2_with fail
    refine bodyPost_ret (v := (.agg #[.string f.n, .string f.v])) (by simp [results, Try.results62, go_sem, *]) rfl ?_
    exact ⟨f, hn, hv, rfl, (hc5.set ⟨w.heap.size, 0, none⟩ (.string f.n) (by show g < w.heap.size; omega)).set ⟨w.heap.size, 1, none⟩ (.string f.v) (by show g < w.heap.size; omega), ((hm1.trans hmc).setNew ⟨w.heap.size, 0, none⟩ (Nat.le_refl w.heap.size) (.string f.n)).setNew ⟨w.heap.size, 1, none⟩ (Nat.le_refl w.heap.size) (.string f.v)⟩
end Go.Proofs.Ytejmnkabmajebaa
