/- Lemmas. -/
import Derived.Test.YtlpbnkideaojeaaGreatDoorQRpG9
namespace Go.Proofs.YtlpbnkideaojeaaGreatDoor
open Go.RowKit
set_option maxRecDepth 100000
set_option linter.unusedSimpArgs false
set_option linter.unusedVariables false
theorem Bl (w : World) (t : TypeId) (f : Fd) : Reads (w.alloc (.cells #[.string f.n, .string f.v] t)) (.slice (some ⟨w.heap.size, 0, none⟩) 1 1) 1 2 (fv [f]) := by
 refine ⟨rfl, some ⟨w.heap.size, 0, none⟩, 1, rfl, Nat.le_refl _, by unfold maxLen; omega, fun _ => ⟨w.heap.size, 0, rfl, by simp, fun j u hu => ?_⟩⟩
 rw [Nat.zero_add]
 exact (aB w t [.string f.n, .string f.v]).cell hu
theorem Bo {w wr u w9 : World} {k : Nat} {xs OO OP : List Value} {e tB tR : TypeId} {v : Value}
  (ho : wr.ownsRow (w.heap.size + 2) e 2 v k xs) (hB : aj wr (w.heap.size + 1) tB OO) (hR : aj wr w.heap.size tR OP) (hb : Below wr.heap.size wr u) (hg : u.grownBy w9 v.ownBlock) : aj w9 (w.heap.size + 1) tB OO ∧ aj w9 w.heap.size tR OP ∧ Below (w.heap.size + 2) wr w9 := by
 have h1 : ∀ q, v.ownBlock = some q → w.heap.size + 2 ≤ q := fun q hq => (ho.lt q hq).1
 have hblk : ∀ q, q < w.heap.size + 2 → q < wr.heap.size → w9.heap[q]? = wr.heap[q]? := fun q hq hq2 => (hg.block q (by have := hb.size; omega) (fun e => by have := h1 q e.symm; omega)).trans (hb.block q hq2)
 refine ⟨hB.kept (hblk _ (by omega) hB.lt), hR.kept (hblk _ (by omega) hR.lt), ⟨hg.os.trans hb.os, hg.tape.trans hb.tape, hg.output.trans hb.output, Nat.le_trans hb.size hg.size, fun q hq => hblk q hq (by have := hB.lt; omega)⟩⟩
set_option maxHeartbeats 8000000 in
theorem Ep (b first : Nat) (L : List Fd) (room : Int) (w : World) (h : RingAt w b first L) (hok : ∀ f ∈ L, okF f = true) :
  Calls Tryz.prog 148 #[.pointer (some ⟨b, 0, none⟩), .int .i64 room] w fun x w' => ∃ v', x = .returned (.agg #[.int .i64 room, v']) ∧ w'.ownsRow w.heap.size 104 2 v' L.length (fv L) ∧ Below w.heap.size w w' := by
 have I8 := h.fst
 have hlen := h.len
 have hbw := h.row.lt
 have hcn := h.count
 have H0 := hide h; have gL := hide hok
 clear h hok
 go_enter Tryz.func148, Tryz.ntmps148
 go_wp2_with fail
 generalize hV : (w.alloc (.cells #[.int .i64 0, .slice none 0 0] 37)).alloc (.cells #[.int .i64 room, .slice none 0 0] 37) = V
 have aO : Below w.heap.size w V := by rw [← hV]; exact aA ((Below.refl _ _).alloc (Nat.le_refl _) _) _
 have Zb : aj V (w.heap.size + 1) 37 [.int .i64 room, .slice none 0 0] := by rw [← hV]; simpa using aB (w.alloc (.cells #[.int .i64 0, .slice none 0 0] 37)) 37 [.int .i64 room, .slice none 0 0]
 have hRR : aj V w.heap.size 37 [.int .i64 0, .slice none 0 0] := by rw [← hV]; exact (aB w 37 [.int .i64 0, .slice none 0 0]).alloc _
 clear hV
 go_loopw [13] (fun i wr => ∃ (k : Nat) (v : Value), (∃ ad cap, v = .slice ad k cap) ∧ i = .int .i64 k ∧ k ≤ L.length ∧ wr.ownsRow (w.heap.size + 2) 104 2 v k (fv (L.take k)) ∧ aj wr (w.heap.size + 1) 37 [.int .i64 room, v] ∧ aj wr w.heap.size 37 [.int .i64 0, .slice none 0 0] ∧ Below w.heap.size w wr) (fun i _ => L.length - (intOf i).toNat)
 case atStart => exact ⟨0, _, ⟨_, _, rfl⟩, rfl, Nat.zero_le _, ⟨by simp [fv], .inl ⟨rfl, rfl⟩⟩, Zb, hRR, aO⟩
 case round =>
  obtain ⟨k, v, ⟨ad, cap, rfl⟩, rfl, hk, hown, hrb, hrr, hb⟩ := hrel
  have hlB : w.heap.size + 1 < wr.heap.size := hrb.lt
  have a0 := hrb.cell (j := 1) rfl
  have a1 := hrb.cell (j := 0) rfl
  have hlb : b < wr.heap.size := Nat.lt_of_lt_of_le hbw hb.size
  have HB0 := hide hb
  have jS := hide hown; have uR := hide hrb; have HRR := hide hrr
  have dA := hide (H0.out.new hb)
  by_cases hlt : k < L.length
  ·have fA : Hid (fv (L.take (k + 1)) = fv (L.take k) ++ fv [L[k]]) := by show _ = _; rw [List.take_succ_eq_append_getElem hlt, yA]
   have Bp := gL.out _ (List.getElem_mem hlt)
   have hat := Gw I8 hlen k hlt
   obtain ⟨f, bK⟩ : ∃ f, L[k] = f := ⟨_, rfl⟩
   rw [bK] at Bp hat fA
   obtain ⟨kk, hkk⟩ : ∃ kk, (first + k) % 112 = kk := ⟨_, rfl⟩
   have OQ : kk < 112 := by omega
   have hat' : (cu first L)[kk]'(by rw [gX]; exact OQ) = f := by simp only [← hkk]; exact hat
   obtain ⟨I9, t0'⟩ := rT (gX first L) first L.length (aS L) kk OQ
   rw [hat'] at I9 t0'
   have s0 := dA.out.row.cell I9
   have t0 := dA.out.row.cell t0'
   have HKK := hide hkk
   clear hown hrb hrr hb bK hat hat' I9 t0' hkk a1
   go_wp2_with fail
   have HB : Below wr.heap.size wr (World.drew wr) := ay 1 (Below.refl _ _)
   refine wp_region_any (by kernel_rfl) ?_; change wpAny _ _ _ _ _ _ _ (World.drew _)
   refine wpAny_take (i := 0) (v := ?_) rfl (by kernel_rfl) (by kernel_rfl) (by kernel_rfl) (fun _ _ _ h => h) (Or.inl ⟨by rfl, ?_⟩) ?_; rotate_left; focus (intro w; go_simp; try with_reducible rfl)
   refine wpAny_take (i := 2) (v := ?_) rfl (by kernel_rfl) (by kernel_rfl) (by kernel_rfl) (fun _ _ _ h => h) (Or.inl ⟨by rfl, ?_⟩) ?_; rotate_left; focus (intro w; go_simp; try with_reducible rfl)
   refine wpAny_take (i := 3) (v := ?_) rfl (by kernel_rfl) (by kernel_rfl) (by kernel_rfl) (fun _ _ _ h => h) (Or.inl ⟨by rfl, ?_⟩) ?_; rotate_left; focus (intro w; go_simp; try with_reducible rfl)
   refine wpAny_ready (rs := [1, 4]) (by kernel_rfl) (by simp) ?_; refine AllReady.cons rfl (fun K hK => ?_) (AllReady.cons rfl (fun K hK => ?_) AllReady.nil)
   ·go_simp; refine hK _ _ ?_; clear hK K
    refine wpAny_ready (rs := [4]) (by kernel_rfl) (by simp) ?_; refine AllReady.cons rfl (fun K hK => ?_) AllReady.nil
    go_simp
    refine (wF b first k (cu first L) _ _ _ (gX _ _) (dA.out.new HB).row I8 (by omega)).mono ?_; rw [HKK.out]; rintro x w4 ⟨rfl, hb4⟩
    have h4 : Below wr.heap.size wr w4 := ah HB hb4
    have a4 := (h4.cell (p := ⟨w.heap.size + 1, 1, none⟩) hlB).trans a0
    have s4 := (h4.cell (p := ⟨b, kk * 2, none⟩) hlb).trans s0
    have t4 := (h4.cell (p := ⟨b, kk * 2 + 1, none⟩) hlb).trans t0
    have hl4 : w.heap.size + 1 < w4.heap.size := Nat.lt_of_lt_of_le hlB h4.size
    replace HB := h4
    refine hK _ _ ?_
    clear hK K
    refine wpAny_take (i := 5) (v := ?_) rfl (by kernel_rfl) (by kernel_rfl) (by kernel_rfl) (fun _ _ _ h => h) (Or.inl ⟨by rfl, ?_⟩) ?_; rotate_left; focus (intro w; go_simp; try with_reducible rfl)
    refine wpAny_ready (rs := [6]) (by kernel_rfl) (by simp) ?_; refine AllReady.cons rfl (fun K hK => ?_) AllReady.nil
    go_simp; refine hK _ _ ?_; clear hK K
    refine wpAny_ready (rs := [7]) (by kernel_rfl) (by simp) ?_; refine AllReady.cons rfl (fun K hK => ?_) AllReady.nil
    go_simp
    refine (AU f _ Bp).mono ?_; rintro x w7 ⟨rfl, dK⟩
    have h7 : Below wr.heap.size wr w7 := ah HB dK
    have a7 := (h7.cell (p := ⟨w.heap.size + 1, 1, none⟩) hlB).trans a0
    have s7 := (h7.cell (p := ⟨b, kk * 2, none⟩) hlb).trans s0
    have t7 := (h7.cell (p := ⟨b, kk * 2 + 1, none⟩) hlb).trans t0
    have qN : w.heap.size + 1 < w7.heap.size := Nat.lt_of_lt_of_le hlB h7.size
    replace HB := h7
    refine hK _ _ ?_
    clear hK K
    refine wpAny_ready (rs := [8]) (by kernel_rfl) (by simp) ?_; refine AllReady.cons rfl (fun K hK => ?_) AllReady.nil
    go_simp; refine hK _ _ ?_; clear hK K
    refine wpAny_ready (rs := [9]) (by kernel_rfl) (by simp) ?_; refine AllReady.cons rfl (fun K hK => ?_) AllReady.nil
    refine kL _ (by rfl) _ _ 35 (by rfl) 104 (.agg #[.string ⟨#[]⟩, .string ⟨#[]⟩]) 2 32 Tryz.underlying35 (by kernel_rfl) rfl (by decide) (w.heap.size + 2) _ k (fv (L.take k)) (by rfl) ((aX jS.out HB).alloc _) _ 1 (fv [f]) (by rfl) (Bl w7 104 f) (nV _) (by omega) (by decide) (by simp; omega) ?_
    intro iw mV w9 kR mW om
    have qp := Bo jS.out uR.out HRR.out (aA HB _) mW
    clear om
    obtain ⟨iH, kQ, sU⟩ := qp
    refine hK _ _ ?_
    clear hK K
    have b9 := iH.cell (j := 1) rfl
    have z9 := iH.frozen 1
    have eF := hide kR
    have sV := hide iH; have sW := hide kQ
    clear kR mW iH kQ
    refine wpAny_take (i := 10) (v := ?_) rfl (by kernel_rfl) (by kernel_rfl) (by kernel_rfl) (fun _ _ _ h => h) (Or.inl ⟨by rfl, ?_⟩) ?_; rotate_left; focus (intro w; go_simp; try with_reducible rfl)
    refine wpAny_ready (rs := [11]) (by kernel_rfl) (by simp) ?_; refine AllReady.cons rfl (fun K hK => ?_) AllReady.nil
    go_simp; refine hK _ _ ?_; clear hK K
    refine wpAny_done (by kernel_rfl) ?_ _
    have ow : ∀ q, (Value.slice iw (k + 1) mV).ownBlock = some q → w.heap.size + 2 ≤ q := fun q hq => (eF.out.lt q hq).1
    go_wp2_with fail
    go_roundw
    case rel => exact ⟨k + 1, .slice iw (k + 1) mV, ⟨_, _, rfl⟩, by go_num, by omega, by rw [fA.out]; exact iq (w.heap.size + 2) eF.out ow _ _ (by simp), sV.out.set 1 _, sW.out.far _ _ (by simp), HB0.out.trans ((sU.mono (show w.heap.size ≤ w.heap.size + 2 by omega)).setCell (show w.heap.size ≤ w.heap.size + 1 by omega) _)⟩
    case measure => simp [intOf]; omega
   ·go_simp
    refine (wF b first k (cu first L) _ _ _ (gX _ _) (dA.out.new HB).row I8 (by omega)).mono ?_; rw [HKK.out]; rintro x w4 ⟨rfl, hb4⟩
    have h4 : Below wr.heap.size wr w4 := ah HB hb4
    have a4 := (h4.cell (p := ⟨w.heap.size + 1, 1, none⟩) hlB).trans a0
    have s4 := (h4.cell (p := ⟨b, kk * 2, none⟩) hlb).trans s0
    have t4 := (h4.cell (p := ⟨b, kk * 2 + 1, none⟩) hlb).trans t0
    have hl4 : w.heap.size + 1 < w4.heap.size := Nat.lt_of_lt_of_le hlB h4.size
    replace HB := h4
    refine hK _ _ ?_
    clear hK K
    refine wpAny_take (i := 5) (v := ?_) rfl (by kernel_rfl) (by kernel_rfl) (by kernel_rfl) (fun _ _ _ h => h) (Or.inl ⟨by rfl, ?_⟩) ?_; rotate_left; focus (intro w; go_simp; try with_reducible rfl)
    refine wpAny_ready (rs := [1, 6]) (by kernel_rfl) (by simp) ?_; refine AllReady.cons rfl (fun K hK => ?_) (AllReady.cons rfl (fun K hK => ?_) AllReady.nil)
    ·go_simp; refine hK _ _ ?_; clear hK K
     refine wpAny_ready (rs := [6]) (by kernel_rfl) (by simp) ?_; refine AllReady.cons rfl (fun K hK => ?_) AllReady.nil
     go_simp; refine hK _ _ ?_; clear hK K
     refine wpAny_ready (rs := [7]) (by kernel_rfl) (by simp) ?_; refine AllReady.cons rfl (fun K hK => ?_) AllReady.nil
     go_simp
     refine (AU f _ Bp).mono ?_; rintro x w7 ⟨rfl, dK⟩
     have h7 : Below wr.heap.size wr w7 := ah HB dK
     have a7 := (h7.cell (p := ⟨w.heap.size + 1, 1, none⟩) hlB).trans a0
     have s7 := (h7.cell (p := ⟨b, kk * 2, none⟩) hlb).trans s0
     have t7 := (h7.cell (p := ⟨b, kk * 2 + 1, none⟩) hlb).trans t0
     have qN : w.heap.size + 1 < w7.heap.size := Nat.lt_of_lt_of_le hlB h7.size
     replace HB := h7
     refine hK _ _ ?_
     clear hK K
     refine wpAny_ready (rs := [8]) (by kernel_rfl) (by simp) ?_; refine AllReady.cons rfl (fun K hK => ?_) AllReady.nil
     go_simp; refine hK _ _ ?_; clear hK K
     refine wpAny_ready (rs := [9]) (by kernel_rfl) (by simp) ?_; refine AllReady.cons rfl (fun K hK => ?_) AllReady.nil
     refine kL _ (by rfl) _ _ 35 (by rfl) 104 (.agg #[.string ⟨#[]⟩, .string ⟨#[]⟩]) 2 32 Tryz.underlying35 (by kernel_rfl) rfl (by decide) (w.heap.size + 2) _ k (fv (L.take k)) (by rfl) ((aX jS.out HB).alloc _) _ 1 (fv [f]) (by rfl) (Bl w7 104 f) (nV _) (by omega) (by decide) (by simp; omega) ?_
     intro iw mV w9 kR mW om
     have qp := Bo jS.out uR.out HRR.out (aA HB _) mW
     clear om
     obtain ⟨iH, kQ, sU⟩ := qp
     refine hK _ _ ?_
     clear hK K
     have b9 := iH.cell (j := 1) rfl
     have z9 := iH.frozen 1
     have eF := hide kR
     have sV := hide iH; have sW := hide kQ
     clear kR mW iH kQ
     refine wpAny_take (i := 10) (v := ?_) rfl (by kernel_rfl) (by kernel_rfl) (by kernel_rfl) (fun _ _ _ h => h) (Or.inl ⟨by rfl, ?_⟩) ?_; rotate_left; focus (intro w; go_simp; try with_reducible rfl)
     refine wpAny_ready (rs := [11]) (by kernel_rfl) (by simp) ?_; refine AllReady.cons rfl (fun K hK => ?_) AllReady.nil
     go_simp; refine hK _ _ ?_; clear hK K
     refine wpAny_done (by kernel_rfl) ?_ _
     have ow : ∀ q, (Value.slice iw (k + 1) mV).ownBlock = some q → w.heap.size + 2 ≤ q := fun q hq => (eF.out.lt q hq).1
     go_wp2_with fail
     go_roundw
     case rel => exact ⟨k + 1, .slice iw (k + 1) mV, ⟨_, _, rfl⟩, by go_num, by omega, by rw [fA.out]; exact iq (w.heap.size + 2) eF.out ow _ _ (by simp), sV.out.set 1 _, sW.out.far _ _ (by simp), HB0.out.trans ((sU.mono (show w.heap.size ≤ w.heap.size + 2 by omega)).setCell (show w.heap.size ≤ w.heap.size + 1 by omega) _)⟩
     case measure => simp [intOf]; omega
    ·go_simp; refine hK _ _ ?_; clear hK K
     refine wpAny_ready (rs := [1, 7]) (by kernel_rfl) (by simp) ?_; refine AllReady.cons rfl (fun K hK => ?_) (AllReady.cons rfl (fun K hK => ?_) AllReady.nil)
     ·go_simp; refine hK _ _ ?_; clear hK K
      refine wpAny_ready (rs := [7]) (by kernel_rfl) (by simp) ?_; refine AllReady.cons rfl (fun K hK => ?_) AllReady.nil
      go_simp
      refine (AU f _ Bp).mono ?_; rintro x w7 ⟨rfl, dK⟩
      have h7 : Below wr.heap.size wr w7 := ah HB dK
      have a7 := (h7.cell (p := ⟨w.heap.size + 1, 1, none⟩) hlB).trans a0
      have s7 := (h7.cell (p := ⟨b, kk * 2, none⟩) hlb).trans s0
      have t7 := (h7.cell (p := ⟨b, kk * 2 + 1, none⟩) hlb).trans t0
      have qN : w.heap.size + 1 < w7.heap.size := Nat.lt_of_lt_of_le hlB h7.size
      replace HB := h7
      refine hK _ _ ?_
      clear hK K
      refine wpAny_ready (rs := [8]) (by kernel_rfl) (by simp) ?_; refine AllReady.cons rfl (fun K hK => ?_) AllReady.nil
      go_simp; refine hK _ _ ?_; clear hK K
      refine wpAny_ready (rs := [9]) (by kernel_rfl) (by simp) ?_; refine AllReady.cons rfl (fun K hK => ?_) AllReady.nil
      refine kL _ (by rfl) _ _ 35 (by rfl) 104 (.agg #[.string ⟨#[]⟩, .string ⟨#[]⟩]) 2 32 Tryz.underlying35 (by kernel_rfl) rfl (by decide) (w.heap.size + 2) _ k (fv (L.take k)) (by rfl) ((aX jS.out HB).alloc _) _ 1 (fv [f]) (by rfl) (Bl w7 104 f) (nV _) (by omega) (by decide) (by simp; omega) ?_
      intro iw mV w9 kR mW om
      have qp := Bo jS.out uR.out HRR.out (aA HB _) mW
      clear om
      obtain ⟨iH, kQ, sU⟩ := qp
      refine hK _ _ ?_
      clear hK K
      have b9 := iH.cell (j := 1) rfl
      have z9 := iH.frozen 1
      have eF := hide kR
      have sV := hide iH; have sW := hide kQ
      clear kR mW iH kQ
      refine wpAny_take (i := 10) (v := ?_) rfl (by kernel_rfl) (by kernel_rfl) (by kernel_rfl) (fun _ _ _ h => h) (Or.inl ⟨by rfl, ?_⟩) ?_; rotate_left; focus (intro w; go_simp; try with_reducible rfl)
      refine wpAny_ready (rs := [11]) (by kernel_rfl) (by simp) ?_; refine AllReady.cons rfl (fun K hK => ?_) AllReady.nil
      go_simp; refine hK _ _ ?_; clear hK K
      refine wpAny_done (by kernel_rfl) ?_ _
      have ow : ∀ q, (Value.slice iw (k + 1) mV).ownBlock = some q → w.heap.size + 2 ≤ q := fun q hq => (eF.out.lt q hq).1
      go_wp2_with fail
      go_roundw
      case rel => exact ⟨k + 1, .slice iw (k + 1) mV, ⟨_, _, rfl⟩, by go_num, by omega, by rw [fA.out]; exact iq (w.heap.size + 2) eF.out ow _ _ (by simp), sV.out.set 1 _, sW.out.far _ _ (by simp), HB0.out.trans ((sU.mono (show w.heap.size ≤ w.heap.size + 2 by omega)).setCell (show w.heap.size ≤ w.heap.size + 1 by omega) _)⟩
      case measure => simp [intOf]; omega
     ·go_simp
      refine (AU f _ Bp).mono ?_; rintro x w7 ⟨rfl, dK⟩
      have h7 : Below wr.heap.size wr w7 := ah HB dK
      have a7 := (h7.cell (p := ⟨w.heap.size + 1, 1, none⟩) hlB).trans a0
      have s7 := (h7.cell (p := ⟨b, kk * 2, none⟩) hlb).trans s0
      have t7 := (h7.cell (p := ⟨b, kk * 2 + 1, none⟩) hlb).trans t0
      have qN : w.heap.size + 1 < w7.heap.size := Nat.lt_of_lt_of_le hlB h7.size
      replace HB := h7
      refine hK _ _ ?_
      clear hK K
      refine wpAny_ready (rs := [1, 8]) (by kernel_rfl) (by simp) ?_; refine AllReady.cons rfl (fun K hK => ?_) (AllReady.cons rfl (fun K hK => ?_) AllReady.nil)
      ·go_simp; refine hK _ _ ?_; clear hK K
       refine wpAny_ready (rs := [8]) (by kernel_rfl) (by simp) ?_; refine AllReady.cons rfl (fun K hK => ?_) AllReady.nil
       go_simp; refine hK _ _ ?_; clear hK K
       refine wpAny_ready (rs := [9]) (by kernel_rfl) (by simp) ?_; refine AllReady.cons rfl (fun K hK => ?_) AllReady.nil
       refine kL _ (by rfl) _ _ 35 (by rfl) 104 (.agg #[.string ⟨#[]⟩, .string ⟨#[]⟩]) 2 32 Tryz.underlying35 (by kernel_rfl) rfl (by decide) (w.heap.size + 2) _ k (fv (L.take k)) (by rfl) ((aX jS.out HB).alloc _) _ 1 (fv [f]) (by rfl) (Bl w7 104 f) (nV _) (by omega) (by decide) (by simp; omega) ?_
       intro iw mV w9 kR mW om
       have qp := Bo jS.out uR.out HRR.out (aA HB _) mW
       clear om
       obtain ⟨iH, kQ, sU⟩ := qp
       refine hK _ _ ?_
       clear hK K
       have b9 := iH.cell (j := 1) rfl
       have z9 := iH.frozen 1
       have eF := hide kR
       have sV := hide iH; have sW := hide kQ
       clear kR mW iH kQ
       refine wpAny_take (i := 10) (v := ?_) rfl (by kernel_rfl) (by kernel_rfl) (by kernel_rfl) (fun _ _ _ h => h) (Or.inl ⟨by rfl, ?_⟩) ?_; rotate_left; focus (intro w; go_simp; try with_reducible rfl)
       refine wpAny_ready (rs := [11]) (by kernel_rfl) (by simp) ?_; refine AllReady.cons rfl (fun K hK => ?_) AllReady.nil
       go_simp; refine hK _ _ ?_; clear hK K
       refine wpAny_done (by kernel_rfl) ?_ _
       have ow : ∀ q, (Value.slice iw (k + 1) mV).ownBlock = some q → w.heap.size + 2 ≤ q := fun q hq => (eF.out.lt q hq).1
       go_wp2_with fail
       go_roundw
       case rel => exact ⟨k + 1, .slice iw (k + 1) mV, ⟨_, _, rfl⟩, by go_num, by omega, by rw [fA.out]; exact iq (w.heap.size + 2) eF.out ow _ _ (by simp), sV.out.set 1 _, sW.out.far _ _ (by simp), HB0.out.trans ((sU.mono (show w.heap.size ≤ w.heap.size + 2 by omega)).setCell (show w.heap.size ≤ w.heap.size + 1 by omega) _)⟩
       case measure => simp [intOf]; omega
      ·go_simp; refine hK _ _ ?_; clear hK K
       refine wpAny_ready (rs := [1]) (by kernel_rfl) (by simp) ?_; refine AllReady.cons rfl (fun K hK => ?_) AllReady.nil
       go_simp; refine hK _ _ ?_; clear hK K
       refine wpAny_ready (rs := [9]) (by kernel_rfl) (by simp) ?_; refine AllReady.cons rfl (fun K hK => ?_) AllReady.nil
       refine kL _ (by rfl) _ _ 35 (by rfl) 104 (.agg #[.string ⟨#[]⟩, .string ⟨#[]⟩]) 2 32 Tryz.underlying35 (by kernel_rfl) rfl (by decide) (w.heap.size + 2) _ k (fv (L.take k)) (by rfl) ((aX jS.out HB).alloc _) _ 1 (fv [f]) (by rfl) (Bl w7 104 f) (nV _) (by omega) (by decide) (by simp; omega) ?_
       intro iw mV w9 kR mW om
       have qp := Bo jS.out uR.out HRR.out (aA HB _) mW
       clear om
       obtain ⟨iH, kQ, sU⟩ := qp
       refine hK _ _ ?_
       clear hK K
       have b9 := iH.cell (j := 1) rfl
       have z9 := iH.frozen 1
       have eF := hide kR
       have sV := hide iH; have sW := hide kQ
       clear kR mW iH kQ
       refine wpAny_take (i := 10) (v := ?_) rfl (by kernel_rfl) (by kernel_rfl) (by kernel_rfl) (fun _ _ _ h => h) (Or.inl ⟨by rfl, ?_⟩) ?_; rotate_left; focus (intro w; go_simp; try with_reducible rfl)
       refine wpAny_ready (rs := [11]) (by kernel_rfl) (by simp) ?_; refine AllReady.cons rfl (fun K hK => ?_) AllReady.nil
       go_simp; refine hK _ _ ?_; clear hK K
       refine wpAny_done (by kernel_rfl) ?_ _
       have ow : ∀ q, (Value.slice iw (k + 1) mV).ownBlock = some q → w.heap.size + 2 ≤ q := fun q hq => (eF.out.lt q hq).1
       go_wp2_with fail
       go_roundw
       case rel => exact ⟨k + 1, .slice iw (k + 1) mV, ⟨_, _, rfl⟩, by go_num, by omega, by rw [fA.out]; exact iq (w.heap.size + 2) eF.out ow _ _ (by simp), sV.out.set 1 _, sW.out.far _ _ (by simp), HB0.out.trans ((sU.mono (show w.heap.size ≤ w.heap.size + 2 by omega)).setCell (show w.heap.size ≤ w.heap.size + 1 by omega) _)⟩
       case measure => simp [intOf]; omega
  ·obtain rfl : k = L.length := by omega
   rw [List.take_length] at hown jS
   have r0 := hrr.cell (j := 0) rfl
   have r1 := hrr.cell (j := 1) rfl
   have r2 := hrr.frozen 0
   have r3 := hrr.frozen 1
   clear hrr hrb hb
   go_wp2_with fail
   refine bodyPost_ret (v := .agg #[.int .i64 room, .slice ad L.length cap]) (by simp [results, Tryz.results148, go_sem, *]) rfl ?_
   exact ⟨_, rfl, eG (iq (w.heap.size + 2) (iq (w.heap.size + 2) jS.out (fun q hq => (jS.out.lt q hq).1) _ _ (by simp)) (fun q hq => (jS.out.lt q hq).1) _ _ (by simp)) (fun q hq => by have := (jS.out.lt q hq).1; omega), (HB0.out.setCell (Nat.le_refl _) _).setCell (Nat.le_refl _) _⟩
end Go.Proofs.YtlpbnkideaojeaaGreatDoor
