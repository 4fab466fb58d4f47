/- Lemmas. -/
import Derived.Test.YtlpbnkideaojeaaGreatDoorQRpLitPack
namespace Go.Proofs.YtlpbnkideaojeaaGreatDoor
open Go.RowKit
set_option maxRecDepth 100000
set_option linter.unusedSimpArgs false
set_option linter.unusedVariables false
set_option maxHeartbeats 4000000 in
set_option maxRecDepth 100000 in
theorem Ie (s : ByteArray) (w : World) (hs : s.size ≤ maxLen) : Calls Tryz.prog 169 #[.string s] w fun e w' => e = .returned (.tuple #[.string (lu s).1, .bool (lu s).2]) ∧ Below w.heap.size w w' := by
 unfold maxLen at hs
 by_cases nH : ¬ s.size ≤ 200
 ·rw [show lu s = (⟨#[]⟩, false) from by simp [lu, nH]]
  go_enter Tryz.func169, Tryz.ntmps169
  go_wp2_with fail
  go_ret2
  exact ⟨rfl, Below.refl _ _⟩
 have nH : s.size ≤ 200 := by omega
 rw [show lu s = dR s from by simp [lu, nH]]
 obtain ⟨i0, hi, hz0, hz1, hz2⟩ := info_parts (P := Tryz.prog) (e := 5) (z := .int .u8 0) (size := 1) (bytes := 1) (by kernel_rfl)
 obtain ⟨L, hL⟩ : ∃ L, cK (dX s) 0 0 = L := ⟨_, rfl⟩
 have bO : L.length ≤ 126 := by rw [← hL, Eb _ _ _ (by omega), yI]; omega
 go_enter Tryz.func169, Tryz.ntmps169
 go_wp2_with fail
 go_loopw [4, 5, 6, 15] (fun b v hv i wr => ∃ (k h : Nat) (z : Int) (pre : List Int), i = .int .i64 k ∧ hv = .int .i64 h ∧ v = .int .i64 z ∧ k ≤ s.size ∧ h < 8 ∧ 0 ≤ z ∧ z < tw h ∧ L = pre ++ cK ((dX s).drop k) h z ∧ Hid (∀ x ∈ pre, 0 ≤ x ∧ x ≤ 255) ∧ Hid (∀ j (hj : j < s.size), j < k → 0 ≤ gP (s[j].toNat : Int)) ∧ wr.ownsRow w.heap.size 5 1 b pre.length (pre.map (Value.int .u8)) ∧ Below w.heap.size w wr) (fun _ _ _ i _ => s.size - (intOf i).toNat)
 case atStart => exact ⟨0, 0, 0, [], rfl, rfl, rfl, Nat.zero_le _, by omega, by omega, by simp [tw], by rw [← hL]; simp, by show ∀ x ∈ _, _; simp, by show ∀ j, _; intro j hj h; omega, World.ownsRow_nil _ _ _ _, Below.refl _ _⟩
 case round =>
  obtain ⟨k, h, z, pre, rfl, rfl, rfl, hk, hh, z0, z1, hpre, hx, hg, hown, hB⟩ := hrel
  by_cases hend : k = s.size
  ·have HV : Hid (dR s = (strOf L, true)) := by
    show _ = _
    simp only [dR]
    rw [if_pos (NZ fun j hj => hg.out j hj (by omega)), hL]
   rw [N7 s k (by omega), uK] at hpre
   subst hend
   clear hg
   have hsz := hB.size
   have hpl : pre.length ≤ 126 := by rw [hpre] at bO; simp at bO; omega
   have : h = 0 ∨ h = 1 ∨ h = 2 ∨ h = 3 ∨ h = 4 ∨ h = 5 ∨ h = 6 ∨ h = 7 := by omega
   rcases this with rfl | rfl | rfl | rfl | rfl | rfl | rfl | rfl
   ·have HL : Hid (L = pre) := by show _ = _; simpa using hpre
    clear hpre
    have hcv := iY (l := pre) hown hx.out
    go_wp2_with fail
    go_ret2
    rw [HV.out, HL.out]
    exact ⟨rfl, hB⟩
   ·have HL : Hid (L = pre ++ [(z * 128 + 127)]) := by show _ = _; rw [hpre]; simp [tw]
    have hor : bits .or .i64 (z * 128) (tw 7 - 1) = z * 128 + 127 := fU 7 (by omega) (by omega) (by simp [tw]) (by simp [tw] at z1; omega) (by simp [tw]) (by simp [tw])
    have hzb : z * 128 + 127 ≤ 255 := by simp [tw] at z1; omega
    have rU : IntKind.i64.wrap (z * 128) = z * 128 := by rw [IntKind.wrap_i64]; omega
    have hzu : IntKind.u8.wrap (z * 128 + 127) = z * 128 + 127 := by rw [IntKind.wrap_u8]; omega
    have nI : pre.length + 1 ≤ 126 := by rw [HL.out] at bO; simp at bO; omega
    clear hpre z1
    go_wp2_with fail
    refine wp_region_any (by kernel_rfl) ?_
    change wpAny _ _ _ _ _ _ _ (World.drew _)
    refine wpAny_take (i := 0) (v := ?_) rfl (by kernel_rfl) (by kernel_rfl) (by kernel_rfl) (fun _ _ _ h => h) (Or.inl ⟨by rfl, ?_⟩) ?_; rotate_left; focus (intro w; go_simp; try with_reducible rfl)
    refine wpAny_take (i := 1) (v := ?_) rfl (by kernel_rfl) (by kernel_rfl) (by kernel_rfl) (fun _ _ _ h => h) (Or.inl ⟨by rfl, ?_⟩) ?_; rotate_left; focus (intro w; go_simp; try with_reducible rfl)
    refine wpAny_take (i := 2) (v := ?_) rfl (by kernel_rfl) (by kernel_rfl) (by kernel_rfl) (fun _ _ _ h => h) (Or.inl ⟨by rfl, ?_⟩) ?_; rotate_left; focus (intro w; go_simp; try with_reducible rfl)
    refine wpAny_take (i := 3) (v := ?_) rfl (by kernel_rfl) (by kernel_rfl) (by kernel_rfl) (fun _ _ _ h => h) (Or.inl ⟨by rfl, ?_⟩) ?_; rotate_left; focus (intro w; go_simp; try with_reducible rfl)
    refine wpAny_take (i := 4) (v := ?_) rfl (by kernel_rfl) (by kernel_rfl) (by kernel_rfl) (fun _ _ _ h => h) (Or.inl ⟨by rfl, ?_⟩) ?_; rotate_left; focus (intro w; go_simp; try with_reducible rfl)
    refine wpAny_ready (rs := [5]) (by kernel_rfl) (by simp) ?_
    refine AllReady.cons rfl (fun K hK => ?_) AllReady.nil
    go_simp
    refine (nZ 7 _ (by omega)).mono ?_
    rintro e w1 ⟨rfl, rfl⟩
    refine hK _ _ ?_; clear hK K
    refine wpAny_take (i := 6) (v := ?_) rfl (by kernel_rfl) (by kernel_rfl) (by kernel_rfl) (fun _ _ _ h => h) (Or.inl ⟨by rfl, ?_⟩) ?_; rotate_left; focus (intro w; go_simp; try with_reducible rfl)
    refine wpAny_take (i := 7) (v := ?_) rfl (by kernel_rfl) (by kernel_rfl) (by kernel_rfl) (fun _ _ _ h => h) (Or.inl ⟨by rfl, ?_⟩) ?_; rotate_left; focus (intro w; go_simp; try with_reducible rfl)
    refine wpAny_ready (rs := [8]) (by kernel_rfl) (by simp) ?_; refine AllReady.cons rfl (fun K hK => ?_) AllReady.nil; go_simp; refine hK _ _ ?_; clear hK K
    have nJ := aX hown ((Below.refl _ _).drew)
    have hown2 : ((wr.drew).alloc (.cells #[.int .u8 (z * 128 + 127)] 5)).ownsRow w.heap.size 5 1 u4 pre.length (pre.map (Value.int .u8)) := nJ.alloc _
    have hR2 : Reads ((wr.drew).alloc (.cells #[.int .u8 (z * 128 + 127)] 5)) (.slice (some ⟨(wr.drew).heap.size, 0, none⟩) 1 1) 1 1 [.int .u8 (z * 128 + 127)] := eP (oQ (wr.drew) 5 _)
    refine wpAny_ready (rs := [9]) (by kernel_rfl) (by simp) ?_
    refine AllReady.cons rfl (fun K hK => ?_) AllReady.nil
    refine kL _ (by rfl) _ _ 127 (by rfl) 5 (.int .u8 0) 1 1 Tryz.underlying127 (by kernel_rfl) rfl (by decide) w.heap.size u4 pre.length _ (by rfl) hown2 _ 1 [.int .u8 (z * 128 + 127)] (by rfl) hR2 (by intro u hu; simp at hu; subst hu; rfl) (by omega) (by decide) (by show w.heap.size ≤ (wr.alloc _).heap.size; simp; omega) ?_
    intro gH cap5 w3 hown3 hgrow lC
    refine hK _ _ ?_; clear hK K
    have hcv := iY (l := pre ++ [(z * 128 + 127)]) (by simpa using hown3) (by intro x hx2; rcases List.mem_append.1 hx2 with h | h; exact hx.out x h; simp at h; omega)
    have hB3 : Below w.heap.size w w3 := (hB.drew.alloc hB.size _).grown hgrow (by simp; omega) (fun k hk => (hown2.lt k hk).1)
    refine wpAny_take (i := 10) (v := ?_) rfl (by kernel_rfl) (by kernel_rfl) (by kernel_rfl) (fun _ _ _ h => h) (Or.inl ⟨by rfl, ?_⟩) ?_; rotate_left; focus (intro w; go_simp; try with_reducible rfl)
    refine wpAny_done (by kernel_rfl) ?_ _
    go_wp2_with fail
    go_ret2
    rw [HV.out, HL.out]
    exact ⟨rfl, hB3⟩
   ·have HL : Hid (L = pre ++ [(z * 64 + 63)]) := by show _ = _; rw [hpre]; simp [tw]
    have hor : bits .or .i64 (z * 64) (tw 6 - 1) = z * 64 + 63 := fU 6 (by omega) (by omega) (by simp [tw]) (by simp [tw] at z1; omega) (by simp [tw]) (by simp [tw])
    have hzb : z * 64 + 63 ≤ 255 := by simp [tw] at z1; omega
    have rU : IntKind.i64.wrap (z * 64) = z * 64 := by rw [IntKind.wrap_i64]; omega
    have hzu : IntKind.u8.wrap (z * 64 + 63) = z * 64 + 63 := by rw [IntKind.wrap_u8]; omega
    have nI : pre.length + 1 ≤ 126 := by rw [HL.out] at bO; simp at bO; omega
    clear hpre z1
    go_wp2_with fail
    refine wp_region_any (by kernel_rfl) ?_
    change wpAny _ _ _ _ _ _ _ (World.drew _)
    refine wpAny_take (i := 0) (v := ?_) rfl (by kernel_rfl) (by kernel_rfl) (by kernel_rfl) (fun _ _ _ h => h) (Or.inl ⟨by rfl, ?_⟩) ?_; rotate_left; focus (intro w; go_simp; try with_reducible rfl)
    refine wpAny_take (i := 1) (v := ?_) rfl (by kernel_rfl) (by kernel_rfl) (by kernel_rfl) (fun _ _ _ h => h) (Or.inl ⟨by rfl, ?_⟩) ?_; rotate_left; focus (intro w; go_simp; try with_reducible rfl)
    refine wpAny_take (i := 2) (v := ?_) rfl (by kernel_rfl) (by kernel_rfl) (by kernel_rfl) (fun _ _ _ h => h) (Or.inl ⟨by rfl, ?_⟩) ?_; rotate_left; focus (intro w; go_simp; try with_reducible rfl)
    refine wpAny_take (i := 3) (v := ?_) rfl (by kernel_rfl) (by kernel_rfl) (by kernel_rfl) (fun _ _ _ h => h) (Or.inl ⟨by rfl, ?_⟩) ?_; rotate_left; focus (intro w; go_simp; try with_reducible rfl)
    refine wpAny_take (i := 4) (v := ?_) rfl (by kernel_rfl) (by kernel_rfl) (by kernel_rfl) (fun _ _ _ h => h) (Or.inl ⟨by rfl, ?_⟩) ?_; rotate_left; focus (intro w; go_simp; try with_reducible rfl)
    refine wpAny_ready (rs := [5]) (by kernel_rfl) (by simp) ?_
    refine AllReady.cons rfl (fun K hK => ?_) AllReady.nil
    go_simp
    refine (nZ 6 _ (by omega)).mono ?_
    rintro e w1 ⟨rfl, rfl⟩
    refine hK _ _ ?_; clear hK K
    refine wpAny_take (i := 6) (v := ?_) rfl (by kernel_rfl) (by kernel_rfl) (by kernel_rfl) (fun _ _ _ h => h) (Or.inl ⟨by rfl, ?_⟩) ?_; rotate_left; focus (intro w; go_simp; try with_reducible rfl)
    refine wpAny_take (i := 7) (v := ?_) rfl (by kernel_rfl) (by kernel_rfl) (by kernel_rfl) (fun _ _ _ h => h) (Or.inl ⟨by rfl, ?_⟩) ?_; rotate_left; focus (intro w; go_simp; try with_reducible rfl)
    refine wpAny_ready (rs := [8]) (by kernel_rfl) (by simp) ?_; refine AllReady.cons rfl (fun K hK => ?_) AllReady.nil; go_simp; refine hK _ _ ?_; clear hK K
    have nJ := aX hown ((Below.refl _ _).drew)
    have hown2 : ((wr.drew).alloc (.cells #[.int .u8 (z * 64 + 63)] 5)).ownsRow w.heap.size 5 1 u4 pre.length (pre.map (Value.int .u8)) := nJ.alloc _
    have hR2 : Reads ((wr.drew).alloc (.cells #[.int .u8 (z * 64 + 63)] 5)) (.slice (some ⟨(wr.drew).heap.size, 0, none⟩) 1 1) 1 1 [.int .u8 (z * 64 + 63)] := eP (oQ (wr.drew) 5 _)
    refine wpAny_ready (rs := [9]) (by kernel_rfl) (by simp) ?_
    refine AllReady.cons rfl (fun K hK => ?_) AllReady.nil
    refine kL _ (by rfl) _ _ 127 (by rfl) 5 (.int .u8 0) 1 1 Tryz.underlying127 (by kernel_rfl) rfl (by decide) w.heap.size u4 pre.length _ (by rfl) hown2 _ 1 [.int .u8 (z * 64 + 63)] (by rfl) hR2 (by intro u hu; simp at hu; subst hu; rfl) (by omega) (by decide) (by show w.heap.size ≤ (wr.alloc _).heap.size; simp; omega) ?_
    intro gH cap5 w3 hown3 hgrow lC
    refine hK _ _ ?_; clear hK K
    have hcv := iY (l := pre ++ [(z * 64 + 63)]) (by simpa using hown3) (by intro x hx2; rcases List.mem_append.1 hx2 with h | h; exact hx.out x h; simp at h; omega)
    have hB3 : Below w.heap.size w w3 := (hB.drew.alloc hB.size _).grown hgrow (by simp; omega) (fun k hk => (hown2.lt k hk).1)
    refine wpAny_take (i := 10) (v := ?_) rfl (by kernel_rfl) (by kernel_rfl) (by kernel_rfl) (fun _ _ _ h => h) (Or.inl ⟨by rfl, ?_⟩) ?_; rotate_left; focus (intro w; go_simp; try with_reducible rfl)
    refine wpAny_done (by kernel_rfl) ?_ _
    go_wp2_with fail
    go_ret2
    rw [HV.out, HL.out]
    exact ⟨rfl, hB3⟩
   ·have HL : Hid (L = pre ++ [(z * 32 + 31)]) := by show _ = _; rw [hpre]; simp [tw]
    have hor : bits .or .i64 (z * 32) (tw 5 - 1) = z * 32 + 31 := fU 5 (by omega) (by omega) (by simp [tw]) (by simp [tw] at z1; omega) (by simp [tw]) (by simp [tw])
    have hzb : z * 32 + 31 ≤ 255 := by simp [tw] at z1; omega
    have rU : IntKind.i64.wrap (z * 32) = z * 32 := by rw [IntKind.wrap_i64]; omega
    have hzu : IntKind.u8.wrap (z * 32 + 31) = z * 32 + 31 := by rw [IntKind.wrap_u8]; omega
    have nI : pre.length + 1 ≤ 126 := by rw [HL.out] at bO; simp at bO; omega
    clear hpre z1
    go_wp2_with fail
    refine wp_region_any (by kernel_rfl) ?_
    change wpAny _ _ _ _ _ _ _ (World.drew _)
    refine wpAny_take (i := 0) (v := ?_) rfl (by kernel_rfl) (by kernel_rfl) (by kernel_rfl) (fun _ _ _ h => h) (Or.inl ⟨by rfl, ?_⟩) ?_; rotate_left; focus (intro w; go_simp; try with_reducible rfl)
    refine wpAny_take (i := 1) (v := ?_) rfl (by kernel_rfl) (by kernel_rfl) (by kernel_rfl) (fun _ _ _ h => h) (Or.inl ⟨by rfl, ?_⟩) ?_; rotate_left; focus (intro w; go_simp; try with_reducible rfl)
    refine wpAny_take (i := 2) (v := ?_) rfl (by kernel_rfl) (by kernel_rfl) (by kernel_rfl) (fun _ _ _ h => h) (Or.inl ⟨by rfl, ?_⟩) ?_; rotate_left; focus (intro w; go_simp; try with_reducible rfl)
    refine wpAny_take (i := 3) (v := ?_) rfl (by kernel_rfl) (by kernel_rfl) (by kernel_rfl) (fun _ _ _ h => h) (Or.inl ⟨by rfl, ?_⟩) ?_; rotate_left; focus (intro w; go_simp; try with_reducible rfl)
    refine wpAny_take (i := 4) (v := ?_) rfl (by kernel_rfl) (by kernel_rfl) (by kernel_rfl) (fun _ _ _ h => h) (Or.inl ⟨by rfl, ?_⟩) ?_; rotate_left; focus (intro w; go_simp; try with_reducible rfl)
    refine wpAny_ready (rs := [5]) (by kernel_rfl) (by simp) ?_
    refine AllReady.cons rfl (fun K hK => ?_) AllReady.nil
    go_simp
    refine (nZ 5 _ (by omega)).mono ?_
    rintro e w1 ⟨rfl, rfl⟩
    refine hK _ _ ?_; clear hK K
    refine wpAny_take (i := 6) (v := ?_) rfl (by kernel_rfl) (by kernel_rfl) (by kernel_rfl) (fun _ _ _ h => h) (Or.inl ⟨by rfl, ?_⟩) ?_; rotate_left; focus (intro w; go_simp; try with_reducible rfl)
    refine wpAny_take (i := 7) (v := ?_) rfl (by kernel_rfl) (by kernel_rfl) (by kernel_rfl) (fun _ _ _ h => h) (Or.inl ⟨by rfl, ?_⟩) ?_; rotate_left; focus (intro w; go_simp; try with_reducible rfl)
    refine wpAny_ready (rs := [8]) (by kernel_rfl) (by simp) ?_; refine AllReady.cons rfl (fun K hK => ?_) AllReady.nil; go_simp; refine hK _ _ ?_; clear hK K
    have nJ := aX hown ((Below.refl _ _).drew)
    have hown2 : ((wr.drew).alloc (.cells #[.int .u8 (z * 32 + 31)] 5)).ownsRow w.heap.size 5 1 u4 pre.length (pre.map (Value.int .u8)) := nJ.alloc _
    have hR2 : Reads ((wr.drew).alloc (.cells #[.int .u8 (z * 32 + 31)] 5)) (.slice (some ⟨(wr.drew).heap.size, 0, none⟩) 1 1) 1 1 [.int .u8 (z * 32 + 31)] := eP (oQ (wr.drew) 5 _)
    refine wpAny_ready (rs := [9]) (by kernel_rfl) (by simp) ?_
    refine AllReady.cons rfl (fun K hK => ?_) AllReady.nil
    refine kL _ (by rfl) _ _ 127 (by rfl) 5 (.int .u8 0) 1 1 Tryz.underlying127 (by kernel_rfl) rfl (by decide) w.heap.size u4 pre.length _ (by rfl) hown2 _ 1 [.int .u8 (z * 32 + 31)] (by rfl) hR2 (by intro u hu; simp at hu; subst hu; rfl) (by omega) (by decide) (by show w.heap.size ≤ (wr.alloc _).heap.size; simp; omega) ?_
    intro gH cap5 w3 hown3 hgrow lC
    refine hK _ _ ?_; clear hK K
    have hcv := iY (l := pre ++ [(z * 32 + 31)]) (by simpa using hown3) (by intro x hx2; rcases List.mem_append.1 hx2 with h | h; exact hx.out x h; simp at h; omega)
    have hB3 : Below w.heap.size w w3 := (hB.drew.alloc hB.size _).grown hgrow (by simp; omega) (fun k hk => (hown2.lt k hk).1)
    refine wpAny_take (i := 10) (v := ?_) rfl (by kernel_rfl) (by kernel_rfl) (by kernel_rfl) (fun _ _ _ h => h) (Or.inl ⟨by rfl, ?_⟩) ?_; rotate_left; focus (intro w; go_simp; try with_reducible rfl)
    refine wpAny_done (by kernel_rfl) ?_ _
    go_wp2_with fail
    go_ret2
    rw [HV.out, HL.out]
    exact ⟨rfl, hB3⟩
   ·have HL : Hid (L = pre ++ [(z * 16 + 15)]) := by show _ = _; rw [hpre]; simp [tw]
    have hor : bits .or .i64 (z * 16) (tw 4 - 1) = z * 16 + 15 := fU 4 (by omega) (by omega) (by simp [tw]) (by simp [tw] at z1; omega) (by simp [tw]) (by simp [tw])
    have hzb : z * 16 + 15 ≤ 255 := by simp [tw] at z1; omega
    have rU : IntKind.i64.wrap (z * 16) = z * 16 := by rw [IntKind.wrap_i64]; omega
    have hzu : IntKind.u8.wrap (z * 16 + 15) = z * 16 + 15 := by rw [IntKind.wrap_u8]; omega
    have nI : pre.length + 1 ≤ 126 := by rw [HL.out] at bO; simp at bO; omega
    clear hpre z1
    go_wp2_with fail
    refine wp_region_any (by kernel_rfl) ?_
    change wpAny _ _ _ _ _ _ _ (World.drew _)
    refine wpAny_take (i := 0) (v := ?_) rfl (by kernel_rfl) (by kernel_rfl) (by kernel_rfl) (fun _ _ _ h => h) (Or.inl ⟨by rfl, ?_⟩) ?_; rotate_left; focus (intro w; go_simp; try with_reducible rfl)
    refine wpAny_take (i := 1) (v := ?_) rfl (by kernel_rfl) (by kernel_rfl) (by kernel_rfl) (fun _ _ _ h => h) (Or.inl ⟨by rfl, ?_⟩) ?_; rotate_left; focus (intro w; go_simp; try with_reducible rfl)
    refine wpAny_take (i := 2) (v := ?_) rfl (by kernel_rfl) (by kernel_rfl) (by kernel_rfl) (fun _ _ _ h => h) (Or.inl ⟨by rfl, ?_⟩) ?_; rotate_left; focus (intro w; go_simp; try with_reducible rfl)
    refine wpAny_take (i := 3) (v := ?_) rfl (by kernel_rfl) (by kernel_rfl) (by kernel_rfl) (fun _ _ _ h => h) (Or.inl ⟨by rfl, ?_⟩) ?_; rotate_left; focus (intro w; go_simp; try with_reducible rfl)
    refine wpAny_take (i := 4) (v := ?_) rfl (by kernel_rfl) (by kernel_rfl) (by kernel_rfl) (fun _ _ _ h => h) (Or.inl ⟨by rfl, ?_⟩) ?_; rotate_left; focus (intro w; go_simp; try with_reducible rfl)
    refine wpAny_ready (rs := [5]) (by kernel_rfl) (by simp) ?_
    refine AllReady.cons rfl (fun K hK => ?_) AllReady.nil
    go_simp
    refine (nZ 4 _ (by omega)).mono ?_
    rintro e w1 ⟨rfl, rfl⟩
    refine hK _ _ ?_; clear hK K
    refine wpAny_take (i := 6) (v := ?_) rfl (by kernel_rfl) (by kernel_rfl) (by kernel_rfl) (fun _ _ _ h => h) (Or.inl ⟨by rfl, ?_⟩) ?_; rotate_left; focus (intro w; go_simp; try with_reducible rfl)
    refine wpAny_take (i := 7) (v := ?_) rfl (by kernel_rfl) (by kernel_rfl) (by kernel_rfl) (fun _ _ _ h => h) (Or.inl ⟨by rfl, ?_⟩) ?_; rotate_left; focus (intro w; go_simp; try with_reducible rfl)
    refine wpAny_ready (rs := [8]) (by kernel_rfl) (by simp) ?_; refine AllReady.cons rfl (fun K hK => ?_) AllReady.nil; go_simp; refine hK _ _ ?_; clear hK K
    have nJ := aX hown ((Below.refl _ _).drew)
    have hown2 : ((wr.drew).alloc (.cells #[.int .u8 (z * 16 + 15)] 5)).ownsRow w.heap.size 5 1 u4 pre.length (pre.map (Value.int .u8)) := nJ.alloc _
    have hR2 : Reads ((wr.drew).alloc (.cells #[.int .u8 (z * 16 + 15)] 5)) (.slice (some ⟨(wr.drew).heap.size, 0, none⟩) 1 1) 1 1 [.int .u8 (z * 16 + 15)] := eP (oQ (wr.drew) 5 _)
    refine wpAny_ready (rs := [9]) (by kernel_rfl) (by simp) ?_
    refine AllReady.cons rfl (fun K hK => ?_) AllReady.nil
    refine kL _ (by rfl) _ _ 127 (by rfl) 5 (.int .u8 0) 1 1 Tryz.underlying127 (by kernel_rfl) rfl (by decide) w.heap.size u4 pre.length _ (by rfl) hown2 _ 1 [.int .u8 (z * 16 + 15)] (by rfl) hR2 (by intro u hu; simp at hu; subst hu; rfl) (by omega) (by decide) (by show w.heap.size ≤ (wr.alloc _).heap.size; simp; omega) ?_
    intro gH cap5 w3 hown3 hgrow lC
    refine hK _ _ ?_; clear hK K
    have hcv := iY (l := pre ++ [(z * 16 + 15)]) (by simpa using hown3) (by intro x hx2; rcases List.mem_append.1 hx2 with h | h; exact hx.out x h; simp at h; omega)
    have hB3 : Below w.heap.size w w3 := (hB.drew.alloc hB.size _).grown hgrow (by simp; omega) (fun k hk => (hown2.lt k hk).1)
    refine wpAny_take (i := 10) (v := ?_) rfl (by kernel_rfl) (by kernel_rfl) (by kernel_rfl) (fun _ _ _ h => h) (Or.inl ⟨by rfl, ?_⟩) ?_; rotate_left; focus (intro w; go_simp; try with_reducible rfl)
    refine wpAny_done (by kernel_rfl) ?_ _
    go_wp2_with fail
    go_ret2
    rw [HV.out, HL.out]
    exact ⟨rfl, hB3⟩
   ·have HL : Hid (L = pre ++ [(z * 8 + 7)]) := by show _ = _; rw [hpre]; simp [tw]
    have hor : bits .or .i64 (z * 8) (tw 3 - 1) = z * 8 + 7 := fU 3 (by omega) (by omega) (by simp [tw]) (by simp [tw] at z1; omega) (by simp [tw]) (by simp [tw])
    have hzb : z * 8 + 7 ≤ 255 := by simp [tw] at z1; omega
    have rU : IntKind.i64.wrap (z * 8) = z * 8 := by rw [IntKind.wrap_i64]; omega
    have hzu : IntKind.u8.wrap (z * 8 + 7) = z * 8 + 7 := by rw [IntKind.wrap_u8]; omega
    have nI : pre.length + 1 ≤ 126 := by rw [HL.out] at bO; simp at bO; omega
    clear hpre z1
    go_wp2_with fail
    refine wp_region_any (by kernel_rfl) ?_
    change wpAny _ _ _ _ _ _ _ (World.drew _)
    refine wpAny_take (i := 0) (v := ?_) rfl (by kernel_rfl) (by kernel_rfl) (by kernel_rfl) (fun _ _ _ h => h) (Or.inl ⟨by rfl, ?_⟩) ?_; rotate_left; focus (intro w; go_simp; try with_reducible rfl)
    refine wpAny_take (i := 1) (v := ?_) rfl (by kernel_rfl) (by kernel_rfl) (by kernel_rfl) (fun _ _ _ h => h) (Or.inl ⟨by rfl, ?_⟩) ?_; rotate_left; focus (intro w; go_simp; try with_reducible rfl)
    refine wpAny_take (i := 2) (v := ?_) rfl (by kernel_rfl) (by kernel_rfl) (by kernel_rfl) (fun _ _ _ h => h) (Or.inl ⟨by rfl, ?_⟩) ?_; rotate_left; focus (intro w; go_simp; try with_reducible rfl)
    refine wpAny_take (i := 3) (v := ?_) rfl (by kernel_rfl) (by kernel_rfl) (by kernel_rfl) (fun _ _ _ h => h) (Or.inl ⟨by rfl, ?_⟩) ?_; rotate_left; focus (intro w; go_simp; try with_reducible rfl)
    refine wpAny_take (i := 4) (v := ?_) rfl (by kernel_rfl) (by kernel_rfl) (by kernel_rfl) (fun _ _ _ h => h) (Or.inl ⟨by rfl, ?_⟩) ?_; rotate_left; focus (intro w; go_simp; try with_reducible rfl)
    refine wpAny_ready (rs := [5]) (by kernel_rfl) (by simp) ?_
    refine AllReady.cons rfl (fun K hK => ?_) AllReady.nil
    go_simp
    refine (nZ 3 _ (by omega)).mono ?_
    rintro e w1 ⟨rfl, rfl⟩
    refine hK _ _ ?_; clear hK K
    refine wpAny_take (i := 6) (v := ?_) rfl (by kernel_rfl) (by kernel_rfl) (by kernel_rfl) (fun _ _ _ h => h) (Or.inl ⟨by rfl, ?_⟩) ?_; rotate_left; focus (intro w; go_simp; try with_reducible rfl)
    refine wpAny_take (i := 7) (v := ?_) rfl (by kernel_rfl) (by kernel_rfl) (by kernel_rfl) (fun _ _ _ h => h) (Or.inl ⟨by rfl, ?_⟩) ?_; rotate_left; focus (intro w; go_simp; try with_reducible rfl)
    refine wpAny_ready (rs := [8]) (by kernel_rfl) (by simp) ?_; refine AllReady.cons rfl (fun K hK => ?_) AllReady.nil; go_simp; refine hK _ _ ?_; clear hK K
    have nJ := aX hown ((Below.refl _ _).drew)
    have hown2 : ((wr.drew).alloc (.cells #[.int .u8 (z * 8 + 7)] 5)).ownsRow w.heap.size 5 1 u4 pre.length (pre.map (Value.int .u8)) := nJ.alloc _
    have hR2 : Reads ((wr.drew).alloc (.cells #[.int .u8 (z * 8 + 7)] 5)) (.slice (some ⟨(wr.drew).heap.size, 0, none⟩) 1 1) 1 1 [.int .u8 (z * 8 + 7)] := eP (oQ (wr.drew) 5 _)
    refine wpAny_ready (rs := [9]) (by kernel_rfl) (by simp) ?_
    refine AllReady.cons rfl (fun K hK => ?_) AllReady.nil
    refine kL _ (by rfl) _ _ 127 (by rfl) 5 (.int .u8 0) 1 1 Tryz.underlying127 (by kernel_rfl) rfl (by decide) w.heap.size u4 pre.length _ (by rfl) hown2 _ 1 [.int .u8 (z * 8 + 7)] (by rfl) hR2 (by intro u hu; simp at hu; subst hu; rfl) (by omega) (by decide) (by show w.heap.size ≤ (wr.alloc _).heap.size; simp; omega) ?_
    intro gH cap5 w3 hown3 hgrow lC
    refine hK _ _ ?_; clear hK K
    have hcv := iY (l := pre ++ [(z * 8 + 7)]) (by simpa using hown3) (by intro x hx2; rcases List.mem_append.1 hx2 with h | h; exact hx.out x h; simp at h; omega)
    have hB3 : Below w.heap.size w w3 := (hB.drew.alloc hB.size _).grown hgrow (by simp; omega) (fun k hk => (hown2.lt k hk).1)
    refine wpAny_take (i := 10) (v := ?_) rfl (by kernel_rfl) (by kernel_rfl) (by kernel_rfl) (fun _ _ _ h => h) (Or.inl ⟨by rfl, ?_⟩) ?_; rotate_left; focus (intro w; go_simp; try with_reducible rfl)
    refine wpAny_done (by kernel_rfl) ?_ _
    go_wp2_with fail
    go_ret2
    rw [HV.out, HL.out]
    exact ⟨rfl, hB3⟩
   ·have HL : Hid (L = pre ++ [(z * 4 + 3)]) := by show _ = _; rw [hpre]; simp [tw]
    have hor : bits .or .i64 (z * 4) (tw 2 - 1) = z * 4 + 3 := fU 2 (by omega) (by omega) (by simp [tw]) (by simp [tw] at z1; omega) (by simp [tw]) (by simp [tw])
    have hzb : z * 4 + 3 ≤ 255 := by simp [tw] at z1; omega
    have rU : IntKind.i64.wrap (z * 4) = z * 4 := by rw [IntKind.wrap_i64]; omega
    have hzu : IntKind.u8.wrap (z * 4 + 3) = z * 4 + 3 := by rw [IntKind.wrap_u8]; omega
    have nI : pre.length + 1 ≤ 126 := by rw [HL.out] at bO; simp at bO; omega
    clear hpre z1
    go_wp2_with fail
    refine wp_region_any (by kernel_rfl) ?_
    change wpAny _ _ _ _ _ _ _ (World.drew _)
    refine wpAny_take (i := 0) (v := ?_) rfl (by kernel_rfl) (by kernel_rfl) (by kernel_rfl) (fun _ _ _ h => h) (Or.inl ⟨by rfl, ?_⟩) ?_; rotate_left; focus (intro w; go_simp; try with_reducible rfl)
    refine wpAny_take (i := 1) (v := ?_) rfl (by kernel_rfl) (by kernel_rfl) (by kernel_rfl) (fun _ _ _ h => h) (Or.inl ⟨by rfl, ?_⟩) ?_; rotate_left; focus (intro w; go_simp; try with_reducible rfl)
    refine wpAny_take (i := 2) (v := ?_) rfl (by kernel_rfl) (by kernel_rfl) (by kernel_rfl) (fun _ _ _ h => h) (Or.inl ⟨by rfl, ?_⟩) ?_; rotate_left; focus (intro w; go_simp; try with_reducible rfl)
    refine wpAny_take (i := 3) (v := ?_) rfl (by kernel_rfl) (by kernel_rfl) (by kernel_rfl) (fun _ _ _ h => h) (Or.inl ⟨by rfl, ?_⟩) ?_; rotate_left; focus (intro w; go_simp; try with_reducible rfl)
    refine wpAny_take (i := 4) (v := ?_) rfl (by kernel_rfl) (by kernel_rfl) (by kernel_rfl) (fun _ _ _ h => h) (Or.inl ⟨by rfl, ?_⟩) ?_; rotate_left; focus (intro w; go_simp; try with_reducible rfl)
    refine wpAny_ready (rs := [5]) (by kernel_rfl) (by simp) ?_
    refine AllReady.cons rfl (fun K hK => ?_) AllReady.nil
    go_simp
    refine (nZ 2 _ (by omega)).mono ?_
    rintro e w1 ⟨rfl, rfl⟩
    refine hK _ _ ?_; clear hK K
    refine wpAny_take (i := 6) (v := ?_) rfl (by kernel_rfl) (by kernel_rfl) (by kernel_rfl) (fun _ _ _ h => h) (Or.inl ⟨by rfl, ?_⟩) ?_; rotate_left; focus (intro w; go_simp; try with_reducible rfl)
    refine wpAny_take (i := 7) (v := ?_) rfl (by kernel_rfl) (by kernel_rfl) (by kernel_rfl) (fun _ _ _ h => h) (Or.inl ⟨by rfl, ?_⟩) ?_; rotate_left; focus (intro w; go_simp; try with_reducible rfl)
    refine wpAny_ready (rs := [8]) (by kernel_rfl) (by simp) ?_; refine AllReady.cons rfl (fun K hK => ?_) AllReady.nil; go_simp; refine hK _ _ ?_; clear hK K
    have nJ := aX hown ((Below.refl _ _).drew)
    have hown2 : ((wr.drew).alloc (.cells #[.int .u8 (z * 4 + 3)] 5)).ownsRow w.heap.size 5 1 u4 pre.length (pre.map (Value.int .u8)) := nJ.alloc _
    have hR2 : Reads ((wr.drew).alloc (.cells #[.int .u8 (z * 4 + 3)] 5)) (.slice (some ⟨(wr.drew).heap.size, 0, none⟩) 1 1) 1 1 [.int .u8 (z * 4 + 3)] := eP (oQ (wr.drew) 5 _)
    refine wpAny_ready (rs := [9]) (by kernel_rfl) (by simp) ?_
    refine AllReady.cons rfl (fun K hK => ?_) AllReady.nil
    refine kL _ (by rfl) _ _ 127 (by rfl) 5 (.int .u8 0) 1 1 Tryz.underlying127 (by kernel_rfl) rfl (by decide) w.heap.size u4 pre.length _ (by rfl) hown2 _ 1 [.int .u8 (z * 4 + 3)] (by rfl) hR2 (by intro u hu; simp at hu; subst hu; rfl) (by omega) (by decide) (by show w.heap.size ≤ (wr.alloc _).heap.size; simp; omega) ?_
    intro gH cap5 w3 hown3 hgrow lC
    refine hK _ _ ?_; clear hK K
    have hcv := iY (l := pre ++ [(z * 4 + 3)]) (by simpa using hown3) (by intro x hx2; rcases List.mem_append.1 hx2 with h | h; exact hx.out x h; simp at h; omega)
    have hB3 : Below w.heap.size w w3 := (hB.drew.alloc hB.size _).grown hgrow (by simp; omega) (fun k hk => (hown2.lt k hk).1)
    refine wpAny_take (i := 10) (v := ?_) rfl (by kernel_rfl) (by kernel_rfl) (by kernel_rfl) (fun _ _ _ h => h) (Or.inl ⟨by rfl, ?_⟩) ?_; rotate_left; focus (intro w; go_simp; try with_reducible rfl)
    refine wpAny_done (by kernel_rfl) ?_ _
    go_wp2_with fail
    go_ret2
    rw [HV.out, HL.out]
    exact ⟨rfl, hB3⟩
   ·have HL : Hid (L = pre ++ [(z * 2 + 1)]) := by show _ = _; rw [hpre]; simp [tw]
    have hor : bits .or .i64 (z * 2) (tw 1 - 1) = z * 2 + 1 := fU 1 (by omega) (by omega) (by simp [tw]) (by simp [tw] at z1; omega) (by simp [tw]) (by simp [tw])
    have hzb : z * 2 + 1 ≤ 255 := by simp [tw] at z1; omega
    have rU : IntKind.i64.wrap (z * 2) = z * 2 := by rw [IntKind.wrap_i64]; omega
    have hzu : IntKind.u8.wrap (z * 2 + 1) = z * 2 + 1 := by rw [IntKind.wrap_u8]; omega
    have nI : pre.length + 1 ≤ 126 := by rw [HL.out] at bO; simp at bO; omega
    clear hpre z1
    go_wp2_with fail
    refine wp_region_any (by kernel_rfl) ?_
    change wpAny _ _ _ _ _ _ _ (World.drew _)
    refine wpAny_take (i := 0) (v := ?_) rfl (by kernel_rfl) (by kernel_rfl) (by kernel_rfl) (fun _ _ _ h => h) (Or.inl ⟨by rfl, ?_⟩) ?_; rotate_left; focus (intro w; go_simp; try with_reducible rfl)
    refine wpAny_take (i := 1) (v := ?_) rfl (by kernel_rfl) (by kernel_rfl) (by kernel_rfl) (fun _ _ _ h => h) (Or.inl ⟨by rfl, ?_⟩) ?_; rotate_left; focus (intro w; go_simp; try with_reducible rfl)
    refine wpAny_take (i := 2) (v := ?_) rfl (by kernel_rfl) (by kernel_rfl) (by kernel_rfl) (fun _ _ _ h => h) (Or.inl ⟨by rfl, ?_⟩) ?_; rotate_left; focus (intro w; go_simp; try with_reducible rfl)
    refine wpAny_take (i := 3) (v := ?_) rfl (by kernel_rfl) (by kernel_rfl) (by kernel_rfl) (fun _ _ _ h => h) (Or.inl ⟨by rfl, ?_⟩) ?_; rotate_left; focus (intro w; go_simp; try with_reducible rfl)
    refine wpAny_take (i := 4) (v := ?_) rfl (by kernel_rfl) (by kernel_rfl) (by kernel_rfl) (fun _ _ _ h => h) (Or.inl ⟨by rfl, ?_⟩) ?_; rotate_left; focus (intro w; go_simp; try with_reducible rfl)
    refine wpAny_ready (rs := [5]) (by kernel_rfl) (by simp) ?_
    refine AllReady.cons rfl (fun K hK => ?_) AllReady.nil
    go_simp
    refine (nZ 1 _ (by omega)).mono ?_
    rintro e w1 ⟨rfl, rfl⟩
    refine hK _ _ ?_; clear hK K
    refine wpAny_take (i := 6) (v := ?_) rfl (by kernel_rfl) (by kernel_rfl) (by kernel_rfl) (fun _ _ _ h => h) (Or.inl ⟨by rfl, ?_⟩) ?_; rotate_left; focus (intro w; go_simp; try with_reducible rfl)
    refine wpAny_take (i := 7) (v := ?_) rfl (by kernel_rfl) (by kernel_rfl) (by kernel_rfl) (fun _ _ _ h => h) (Or.inl ⟨by rfl, ?_⟩) ?_; rotate_left; focus (intro w; go_simp; try with_reducible rfl)
    refine wpAny_ready (rs := [8]) (by kernel_rfl) (by simp) ?_; refine AllReady.cons rfl (fun K hK => ?_) AllReady.nil; go_simp; refine hK _ _ ?_; clear hK K
    have nJ := aX hown ((Below.refl _ _).drew)
    have hown2 : ((wr.drew).alloc (.cells #[.int .u8 (z * 2 + 1)] 5)).ownsRow w.heap.size 5 1 u4 pre.length (pre.map (Value.int .u8)) := nJ.alloc _
    have hR2 : Reads ((wr.drew).alloc (.cells #[.int .u8 (z * 2 + 1)] 5)) (.slice (some ⟨(wr.drew).heap.size, 0, none⟩) 1 1) 1 1 [.int .u8 (z * 2 + 1)] := eP (oQ (wr.drew) 5 _)
    refine wpAny_ready (rs := [9]) (by kernel_rfl) (by simp) ?_
    refine AllReady.cons rfl (fun K hK => ?_) AllReady.nil
    refine kL _ (by rfl) _ _ 127 (by rfl) 5 (.int .u8 0) 1 1 Tryz.underlying127 (by kernel_rfl) rfl (by decide) w.heap.size u4 pre.length _ (by rfl) hown2 _ 1 [.int .u8 (z * 2 + 1)] (by rfl) hR2 (by intro u hu; simp at hu; subst hu; rfl) (by omega) (by decide) (by show w.heap.size ≤ (wr.alloc _).heap.size; simp; omega) ?_
    intro gH cap5 w3 hown3 hgrow lC
    refine hK _ _ ?_; clear hK K
    have hcv := iY (l := pre ++ [(z * 2 + 1)]) (by simpa using hown3) (by intro x hx2; rcases List.mem_append.1 hx2 with h | h; exact hx.out x h; simp at h; omega)
    have hB3 : Below w.heap.size w w3 := (hB.drew.alloc hB.size _).grown hgrow (by simp; omega) (fun k hk => (hown2.lt k hk).1)
    refine wpAny_take (i := 10) (v := ?_) rfl (by kernel_rfl) (by kernel_rfl) (by kernel_rfl) (fun _ _ _ h => h) (Or.inl ⟨by rfl, ?_⟩) ?_; rotate_left; focus (intro w; go_simp; try with_reducible rfl)
    refine wpAny_done (by kernel_rfl) ?_ _
    go_wp2_with fail
    go_ret2
    rw [HV.out, HL.out]
    exact ⟨rfl, hB3⟩
  have hks : k < s.size := by omega
  have hc0 : 0 ≤ (s[k].toNat : Int) := by omega
  have hc1 : (s[k].toNat : Int) ≤ 255 := by have := s[k].toNat_lt; omega
  obtain ⟨n, hn⟩ : ∃ n, gP (s[k].toNat : Int) = n := ⟨_, rfl⟩
  have hnr := Ii (s[k].toNat : Int)
  rw [hn] at hnr
  by_cases hneg : n < 0
  ·have HV : Hid (dR s = (⟨#[]⟩, false)) := by show _ = _; simp [dR, N9 hks (by rw [hn]; exact hneg)]
   clear hpre z1
   go_wp2_with (go_at_call 175; refine (sG _ _ hc0 hc1).mono ?_; rintro e w' ⟨rfl, rfl⟩; rw [hn])
   go_ret2
   rw [HV.out]
   exact ⟨rfl, hB⟩
  have hd : (dX s).drop k = n :: (dX s).drop (k + 1) := by rw [Ed s k hks, hn]
  have HG : Hid (∀ j (hj : j < s.size), j < k + 1 → 0 ≤ gP (s[j].toNat : Int)) := by
   show ∀ j, _
   intro j hj hjk
   by_cases e : j = k
   ·subst e; rw [hn]; omega
   ·exact hg.out j hj (by omega)
  have : h = 0 ∨ h = 1 ∨ h = 2 ∨ h = 3 ∨ h = 4 ∨ h = 5 ∨ h = 6 ∨ h = 7 := by omega
  rcases this with rfl | rfl | rfl | rfl | rfl | rfl | rfl | rfl
  ·have hor : bits .or .i64 (z * 32) n = z * 32 + n := fU 5 (by omega) (by omega) (by simp [tw]) (by simp [tw] at z1; omega) (by omega) (by simp [tw]; omega)
   rw [hd, nK (by omega)] at hpre
   have HP : Hid (L = pre ++ cK ((dX s).drop (k + 1)) 5 (z * 32 + n)) := hpre
   have HZ : Hid (z * 32 + n < tw 5) := by show _ < _; simp [tw] at z1 ⊢; omega
   have hzb : z * 32 + n < 32 := by simp [tw] at z1; omega
   clear hpre hd z1
   go_wp2_with (go_at_call 175; refine (sG _ _ hc0 hc1).mono ?_; rintro e w' ⟨rfl, rfl⟩; rw [hn])
   go_roundw
   case rel => exact ⟨k + 1, 5, z * 32 + n, pre, by go_num, rfl, rfl, by omega, by omega, by omega, HZ.out, HP.out, hx, HG, hown, hB⟩
   case measure => simp [intOf]; omega
  ·have hor : bits .or .i64 (z * 32) n = z * 32 + n := fU 5 (by omega) (by omega) (by simp [tw]) (by simp [tw] at z1; omega) (by omega) (by simp [tw]; omega)
   rw [hd, nK (by omega)] at hpre
   have HP : Hid (L = pre ++ cK ((dX s).drop (k + 1)) 6 (z * 32 + n)) := hpre
   have HZ : Hid (z * 32 + n < tw 6) := by show _ < _; simp [tw] at z1 ⊢; omega
   have hzb : z * 32 + n < 64 := by simp [tw] at z1; omega
   clear hpre hd z1
   go_wp2_with (go_at_call 175; refine (sG _ _ hc0 hc1).mono ?_; rintro e w' ⟨rfl, rfl⟩; rw [hn])
   go_roundw
   case rel => exact ⟨k + 1, 6, z * 32 + n, pre, by go_num, rfl, rfl, by omega, by omega, by omega, HZ.out, HP.out, hx, HG, hown, hB⟩
   case measure => simp [intOf]; omega
  ·have hor : bits .or .i64 (z * 32) n = z * 32 + n := fU 5 (by omega) (by omega) (by simp [tw]) (by simp [tw] at z1; omega) (by omega) (by simp [tw]; omega)
   rw [hd, nK (by omega)] at hpre
   have HP : Hid (L = pre ++ cK ((dX s).drop (k + 1)) 7 (z * 32 + n)) := hpre
   have HZ : Hid (z * 32 + n < tw 7) := by show _ < _; simp [tw] at z1 ⊢; omega
   have hzb : z * 32 + n < 128 := by simp [tw] at z1; omega
   clear hpre hd z1
   go_wp2_with (go_at_call 175; refine (sG _ _ hc0 hc1).mono ?_; rintro e w' ⟨rfl, rfl⟩; rw [hn])
   go_roundw
   case rel => exact ⟨k + 1, 7, z * 32 + n, pre, by go_num, rfl, rfl, by omega, by omega, by omega, HZ.out, HP.out, hx, HG, hown, hB⟩
   case measure => simp [intOf]; omega
  ·have hor : bits .or .i64 (z * 32) n = z * 32 + n := fU 5 (by omega) (by omega) (by simp [tw]) (by simp [tw] at z1; omega) (by omega) (by simp [tw]; omega)
   have hand : bits .and .i64 (z * 32 + n) (tw 0 - 1) = (z * 32 + n) % tw 0 := AB (by omega) (by omega) (by simp [tw] at z1; omega)
   have hX : (z * 32 + n) / tw 0 = (z * 32 + n) := by simp [tw]
   have hzb : z * 32 + n < 256 := by simp [tw] at z1; omega
   rw [hd, kE (by omega)] at hpre
   have HP : Hid (L = (pre ++ [(z * 32 + n)]) ++ cK ((dX s).drop (k + 1)) 0 ((z * 32 + n) % tw 0)) := by show _ = _; rw [hpre, hX]; simp
   have HZ : Hid ((z * 32 + n) % tw 0 < tw 0) := by show _ < _; simp [tw]
   have HZ0 : Hid (0 ≤ (z * 32 + n) % tw 0) := by show _ ≤ _; simp [tw]
   have hpl : pre.length + 1 ≤ 126 := by rw [HP.out] at bO; simp at bO; omega
   clear hpre hd hX
   have hown2 := hown.alloc (.cells #[.int .u8 (z * 32 + n)] 5)
   have hsz := hB.size
   clear z1
   go_wp2_with (first | (go_at_call 175; refine (sG _ _ hc0 hc1).mono ?_; rintro e w' ⟨rfl, rfl⟩; rw [hn]) | (at_builtin; refine wpList_append_own _ rfl _ _ 127 rfl w.heap.size 5 i0 (.int .u8 0) 1 1 Tryz.underlying127 hi hz0 hz1 hz2 rfl (by decide) _ _ _ rfl hown2 ⟨_, 0, none⟩ 1 1 [.int .u8 (z * 32 + n)] rfl rfl (cell_one_new _ _ _) ?d2 ?d3 ?d4 ?d5 ?_))
   case d2 => first | rfl | (intro u hu; simp at hu; subst hu; rfl)
   case d3 => first | omega | (unfold maxLen; omega)
   case d4 => omega
   case d5 => first | omega | (simp; omega)
   intro v' w3 hown3 hgrow _
   have HX : Hid (∀ x ∈ pre ++ [(z * 32 + n)], 0 ≤ x ∧ x ≤ 255) := by show ∀ _ ∈ _, _; intro x hx2; rcases List.mem_append.1 hx2 with h | h; exact hx.out x h; simp at h; omega
   have hB3 : Below w.heap.size w w3 := (hB.alloc hB.size _).grown hgrow (by simp; omega) (fun k hk => (hown2.lt k hk).1)
   have HO : Hid (w3.ownsRow w.heap.size 5 1 v' (pre ++ [(z * 32 + n)]).length ((pre ++ [(z * 32 + n)]).map (Value.int .u8))) := by show World.ownsRow _ _ _ _ _ _ _; simpa using hown3
   clear hown3 hown2 hown hx
   go_wp2_with (go_at_call 167; refine (nZ 0 _ (by omega)).mono ?_; rintro e w' ⟨rfl, rfl⟩)
   go_roundw
   case rel => exact ⟨k + 1, 0, (z * 32 + n) % tw 0, _, by go_num, by go_num, rfl, by omega, by omega, HZ0.out, HZ.out, HP.out, HX, HG, HO.out, hB3⟩
   case measure => simp [intOf]; omega
  ·have hor : bits .or .i64 (z * 32) n = z * 32 + n := fU 5 (by omega) (by omega) (by simp [tw]) (by simp [tw] at z1; omega) (by omega) (by simp [tw]; omega)
   have hand : bits .and .i64 (z * 32 + n) (tw 1 - 1) = (z * 32 + n) % tw 1 := AB (by omega) (by omega) (by simp [tw] at z1; omega)
   have hX : (z * 32 + n) / tw 1 = ((z * 32 + n) / 2) := by simp [tw]
   have hzb : z * 32 + n < 512 := by simp [tw] at z1; omega
   rw [hd, kE (by omega)] at hpre
   have HP : Hid (L = (pre ++ [((z * 32 + n) / 2)]) ++ cK ((dX s).drop (k + 1)) 1 ((z * 32 + n) % tw 1)) := by show _ = _; rw [hpre, ← hX]; simp
   have HZ : Hid ((z * 32 + n) % tw 1 < tw 1) := by show _ < _; simp [tw]; omega
   have HZ0 : Hid (0 ≤ (z * 32 + n) % tw 1) := by show _ ≤ _; simp [tw]; omega
   have hpl : pre.length + 1 ≤ 126 := by rw [HP.out] at bO; simp at bO; omega
   clear hpre hd hX
   have hown2 := hown.alloc (.cells #[.int .u8 ((z * 32 + n) / 2)] 5)
   have hsz := hB.size
   clear z1
   go_wp2_with (first | (go_at_call 175; refine (sG _ _ hc0 hc1).mono ?_; rintro e w' ⟨rfl, rfl⟩; rw [hn]) | (at_builtin; refine wpList_append_own _ rfl _ _ 127 rfl w.heap.size 5 i0 (.int .u8 0) 1 1 Tryz.underlying127 hi hz0 hz1 hz2 rfl (by decide) _ _ _ rfl hown2 ⟨_, 0, none⟩ 1 1 [.int .u8 ((z * 32 + n) / 2)] rfl rfl (cell_one_new _ _ _) ?d2 ?d3 ?d4 ?d5 ?_))
   case d2 => first | rfl | (intro u hu; simp at hu; subst hu; rfl)
   case d3 => first | omega | (unfold maxLen; omega)
   case d4 => omega
   case d5 => first | omega | (simp; omega)
   intro v' w3 hown3 hgrow _
   have HX : Hid (∀ x ∈ pre ++ [((z * 32 + n) / 2)], 0 ≤ x ∧ x ≤ 255) := by show ∀ _ ∈ _, _; intro x hx2; rcases List.mem_append.1 hx2 with h | h; exact hx.out x h; simp at h; omega
   have hB3 : Below w.heap.size w w3 := (hB.alloc hB.size _).grown hgrow (by simp; omega) (fun k hk => (hown2.lt k hk).1)
   have HO : Hid (w3.ownsRow w.heap.size 5 1 v' (pre ++ [((z * 32 + n) / 2)]).length ((pre ++ [((z * 32 + n) / 2)]).map (Value.int .u8))) := by show World.ownsRow _ _ _ _ _ _ _; simpa using hown3
   clear hown3 hown2 hown hx
   go_wp2_with (go_at_call 167; refine (nZ 1 _ (by omega)).mono ?_; rintro e w' ⟨rfl, rfl⟩)
   go_roundw
   case rel => exact ⟨k + 1, 1, (z * 32 + n) % tw 1, _, by go_num, by go_num, rfl, by omega, by omega, HZ0.out, HZ.out, HP.out, HX, HG, HO.out, hB3⟩
   case measure => simp [intOf]; omega
  ·have hor : bits .or .i64 (z * 32) n = z * 32 + n := fU 5 (by omega) (by omega) (by simp [tw]) (by simp [tw] at z1; omega) (by omega) (by simp [tw]; omega)
   have hand : bits .and .i64 (z * 32 + n) (tw 2 - 1) = (z * 32 + n) % tw 2 := AB (by omega) (by omega) (by simp [tw] at z1; omega)
   have hX : (z * 32 + n) / tw 2 = ((z * 32 + n) / 4) := by simp [tw]
   have hzb : z * 32 + n < 1024 := by simp [tw] at z1; omega
   rw [hd, kE (by omega)] at hpre
   have HP : Hid (L = (pre ++ [((z * 32 + n) / 4)]) ++ cK ((dX s).drop (k + 1)) 2 ((z * 32 + n) % tw 2)) := by show _ = _; rw [hpre, ← hX]; simp
   have HZ : Hid ((z * 32 + n) % tw 2 < tw 2) := by show _ < _; simp [tw]; omega
   have HZ0 : Hid (0 ≤ (z * 32 + n) % tw 2) := by show _ ≤ _; simp [tw]; omega
   have hpl : pre.length + 1 ≤ 126 := by rw [HP.out] at bO; simp at bO; omega
   clear hpre hd hX
   have hown2 := hown.alloc (.cells #[.int .u8 ((z * 32 + n) / 4)] 5)
   have hsz := hB.size
   clear z1
   go_wp2_with (first | (go_at_call 175; refine (sG _ _ hc0 hc1).mono ?_; rintro e w' ⟨rfl, rfl⟩; rw [hn]) | (at_builtin; refine wpList_append_own _ rfl _ _ 127 rfl w.heap.size 5 i0 (.int .u8 0) 1 1 Tryz.underlying127 hi hz0 hz1 hz2 rfl (by decide) _ _ _ rfl hown2 ⟨_, 0, none⟩ 1 1 [.int .u8 ((z * 32 + n) / 4)] rfl rfl (cell_one_new _ _ _) ?d2 ?d3 ?d4 ?d5 ?_))
   case d2 => first | rfl | (intro u hu; simp at hu; subst hu; rfl)
   case d3 => first | omega | (unfold maxLen; omega)
   case d4 => omega
   case d5 => first | omega | (simp; omega)
   intro v' w3 hown3 hgrow _
   have HX : Hid (∀ x ∈ pre ++ [((z * 32 + n) / 4)], 0 ≤ x ∧ x ≤ 255) := by show ∀ _ ∈ _, _; intro x hx2; rcases List.mem_append.1 hx2 with h | h; exact hx.out x h; simp at h; omega
   have hB3 : Below w.heap.size w w3 := (hB.alloc hB.size _).grown hgrow (by simp; omega) (fun k hk => (hown2.lt k hk).1)
   have HO : Hid (w3.ownsRow w.heap.size 5 1 v' (pre ++ [((z * 32 + n) / 4)]).length ((pre ++ [((z * 32 + n) / 4)]).map (Value.int .u8))) := by show World.ownsRow _ _ _ _ _ _ _; simpa using hown3
   clear hown3 hown2 hown hx
   go_wp2_with (go_at_call 167; refine (nZ 2 _ (by omega)).mono ?_; rintro e w' ⟨rfl, rfl⟩)
   go_roundw
   case rel => exact ⟨k + 1, 2, (z * 32 + n) % tw 2, _, by go_num, by go_num, rfl, by omega, by omega, HZ0.out, HZ.out, HP.out, HX, HG, HO.out, hB3⟩
   case measure => simp [intOf]; omega
  ·have hor : bits .or .i64 (z * 32) n = z * 32 + n := fU 5 (by omega) (by omega) (by simp [tw]) (by simp [tw] at z1; omega) (by omega) (by simp [tw]; omega)
   have hand : bits .and .i64 (z * 32 + n) (tw 3 - 1) = (z * 32 + n) % tw 3 := AB (by omega) (by omega) (by simp [tw] at z1; omega)
   have hX : (z * 32 + n) / tw 3 = ((z * 32 + n) / 8) := by simp [tw]
   have hzb : z * 32 + n < 2048 := by simp [tw] at z1; omega
   rw [hd, kE (by omega)] at hpre
   have HP : Hid (L = (pre ++ [((z * 32 + n) / 8)]) ++ cK ((dX s).drop (k + 1)) 3 ((z * 32 + n) % tw 3)) := by show _ = _; rw [hpre, ← hX]; simp
   have HZ : Hid ((z * 32 + n) % tw 3 < tw 3) := by show _ < _; simp [tw]; omega
   have HZ0 : Hid (0 ≤ (z * 32 + n) % tw 3) := by show _ ≤ _; simp [tw]; omega
   have hpl : pre.length + 1 ≤ 126 := by rw [HP.out] at bO; simp at bO; omega
   clear hpre hd hX
   have hown2 := hown.alloc (.cells #[.int .u8 ((z * 32 + n) / 8)] 5)
   have hsz := hB.size
   clear z1
   go_wp2_with (first | (go_at_call 175; refine (sG _ _ hc0 hc1).mono ?_; rintro e w' ⟨rfl, rfl⟩; rw [hn]) | (at_builtin; refine wpList_append_own _ rfl _ _ 127 rfl w.heap.size 5 i0 (.int .u8 0) 1 1 Tryz.underlying127 hi hz0 hz1 hz2 rfl (by decide) _ _ _ rfl hown2 ⟨_, 0, none⟩ 1 1 [.int .u8 ((z * 32 + n) / 8)] rfl rfl (cell_one_new _ _ _) ?d2 ?d3 ?d4 ?d5 ?_))
   case d2 => first | rfl | (intro u hu; simp at hu; subst hu; rfl)
   case d3 => first | omega | (unfold maxLen; omega)
   case d4 => omega
   case d5 => first | omega | (simp; omega)
   intro v' w3 hown3 hgrow _
   have HX : Hid (∀ x ∈ pre ++ [((z * 32 + n) / 8)], 0 ≤ x ∧ x ≤ 255) := by show ∀ _ ∈ _, _; intro x hx2; rcases List.mem_append.1 hx2 with h | h; exact hx.out x h; simp at h; omega
   have hB3 : Below w.heap.size w w3 := (hB.alloc hB.size _).grown hgrow (by simp; omega) (fun k hk => (hown2.lt k hk).1)
   have HO : Hid (w3.ownsRow w.heap.size 5 1 v' (pre ++ [((z * 32 + n) / 8)]).length ((pre ++ [((z * 32 + n) / 8)]).map (Value.int .u8))) := by show World.ownsRow _ _ _ _ _ _ _; simpa using hown3
   clear hown3 hown2 hown hx
   go_wp2_with (go_at_call 167; refine (nZ 3 _ (by omega)).mono ?_; rintro e w' ⟨rfl, rfl⟩)
   go_roundw
   case rel => exact ⟨k + 1, 3, (z * 32 + n) % tw 3, _, by go_num, by go_num, rfl, by omega, by omega, HZ0.out, HZ.out, HP.out, HX, HG, HO.out, hB3⟩
   case measure => simp [intOf]; omega
  ·have hor : bits .or .i64 (z * 32) n = z * 32 + n := fU 5 (by omega) (by omega) (by simp [tw]) (by simp [tw] at z1; omega) (by omega) (by simp [tw]; omega)
   have hand : bits .and .i64 (z * 32 + n) (tw 4 - 1) = (z * 32 + n) % tw 4 := AB (by omega) (by omega) (by simp [tw] at z1; omega)
   have hX : (z * 32 + n) / tw 4 = ((z * 32 + n) / 16) := by simp [tw]
   have hzb : z * 32 + n < 4096 := by simp [tw] at z1; omega
   rw [hd, kE (by omega)] at hpre
   have HP : Hid (L = (pre ++ [((z * 32 + n) / 16)]) ++ cK ((dX s).drop (k + 1)) 4 ((z * 32 + n) % tw 4)) := by show _ = _; rw [hpre, ← hX]; simp
   have HZ : Hid ((z * 32 + n) % tw 4 < tw 4) := by show _ < _; simp [tw]; omega
   have HZ0 : Hid (0 ≤ (z * 32 + n) % tw 4) := by show _ ≤ _; simp [tw]; omega
   have hpl : pre.length + 1 ≤ 126 := by rw [HP.out] at bO; simp at bO; omega
   clear hpre hd hX
   have hown2 := hown.alloc (.cells #[.int .u8 ((z * 32 + n) / 16)] 5)
   have hsz := hB.size
   clear z1
   go_wp2_with (first | (go_at_call 175; refine (sG _ _ hc0 hc1).mono ?_; rintro e w' ⟨rfl, rfl⟩; rw [hn]) | (at_builtin; refine wpList_append_own _ rfl _ _ 127 rfl w.heap.size 5 i0 (.int .u8 0) 1 1 Tryz.underlying127 hi hz0 hz1 hz2 rfl (by decide) _ _ _ rfl hown2 ⟨_, 0, none⟩ 1 1 [.int .u8 ((z * 32 + n) / 16)] rfl rfl (cell_one_new _ _ _) ?d2 ?d3 ?d4 ?d5 ?_))
   case d2 => first | rfl | (intro u hu; simp at hu; subst hu; rfl)
   case d3 => first | omega | (unfold maxLen; omega)
   case d4 => omega
   case d5 => first | omega | (simp; omega)
   intro v' w3 hown3 hgrow _
   have HX : Hid (∀ x ∈ pre ++ [((z * 32 + n) / 16)], 0 ≤ x ∧ x ≤ 255) := by show ∀ _ ∈ _, _; intro x hx2; rcases List.mem_append.1 hx2 with h | h; exact hx.out x h; simp at h; omega
   have hB3 : Below w.heap.size w w3 := (hB.alloc hB.size _).grown hgrow (by simp; omega) (fun k hk => (hown2.lt k hk).1)
   have HO : Hid (w3.ownsRow w.heap.size 5 1 v' (pre ++ [((z * 32 + n) / 16)]).length ((pre ++ [((z * 32 + n) / 16)]).map (Value.int .u8))) := by show World.ownsRow _ _ _ _ _ _ _; simpa using hown3
   clear hown3 hown2 hown hx
   go_wp2_with (go_at_call 167; refine (nZ 4 _ (by omega)).mono ?_; rintro e w' ⟨rfl, rfl⟩)
   go_roundw
   case rel => exact ⟨k + 1, 4, (z * 32 + n) % tw 4, _, by go_num, by go_num, rfl, by omega, by omega, HZ0.out, HZ.out, HP.out, HX, HG, HO.out, hB3⟩
   case measure => simp [intOf]; omega
end Go.Proofs.YtlpbnkideaojeaaGreatDoor
