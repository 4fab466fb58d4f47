/- The ring's rows are laid out as a Table. -/
import Derived.Test.YtfmeinkhdgbgjaaGreatQTkG9
namespace Go.Proofs.YtfmeinkhdgbgjaaGreat
open Go.RowKit
set_option maxRecDepth 100000
set_option linter.unusedSimpArgs false
set_option linter.unusedVariables false

theorem reads_one (w : World) (t : TypeId) (f : Fd) : Reads (w.alloc (.cells #[.string f.n, .string f.v] t)) (.slice (some ⟨w.heap.size, 0, none⟩) 1 1) 1 2 (fv [f]) := by
  refine ⟨rfl, some ⟨w.heap.size, 0, none⟩, 1, rfl, Nat.le_refl _, by unfold maxLen; omega, fun _ => ⟨w.heap.size, 0, rfl, by simp, fun j u hu => ?_⟩⟩
  rw [Nat.zero_add]
  exact (rowIs_new w t [.string f.n, .string f.v]).cell hu
theorem owned_on {w wr u w9 : World} {k : Nat} {xs csB csR : List Value} {e tB tR : TypeId} {v : Value}
    (ho : wr.ownsRow (w.heap.size + 2) e 2 v k xs) (hB : RowIs wr (w.heap.size + 1) tB csB) (hR : RowIs wr w.heap.size tR csR) (hb : Below wr.heap.size wr u) (hg : u.grownBy w9 v.ownBlock) : RowIs w9 (w.heap.size + 1) tB csB ∧ RowIs w9 w.heap.size tR csR ∧ Below (w.heap.size + 2) wr w9 := by
  have h1 : ∀ q, v.ownBlock = some q → w.heap.size + 2 ≤ q := fun q hq => (ho.lt q hq).1
  have hblk : ∀ q, q < w.heap.size + 2 → q < wr.heap.size → w9.heap[q]? = wr.heap[q]? := fun q hq hq2 => (hg.block q (by have := hb.size; omega) (fun e => by have := h1 q e.symm; omega)).trans (hb.block q hq2)
  refine ⟨hB.kept (hblk _ (by omega) hB.lt), hR.kept (hblk _ (by omega) hR.lt), ⟨hg.os.trans hb.os, hg.tape.trans hb.tape, hg.output.trans hb.output, Nat.le_trans hb.size hg.size, fun q hq => hblk q hq (by have := hB.lt; omega)⟩⟩

set_option maxHeartbeats 8000000 in
theorem table1 (b first : Nat) (L : List Fd) (room : Int) (w : World) (h : RingAt w b first L) (hok : ∀ f ∈ L, okF f = true) :
    Calls Tryz.prog 266 #[.pointer (some ⟨b, 0, none⟩), .int .i64 room] w fun x w' => ∃ v', x = .returned (.agg #[.int .i64 room, v']) ∧ w'.ownsRow w.heap.size 163 2 v' L.length (fv L) ∧ Below w.heap.size w w' := by
  have hfst := h.fst
  have hlen := h.len
  have hbw := h.row.lt
  have hcn := h.count
  have H0 := hide h; have HOK := hide hok
  clear h hok
  go_enter Tryz.func266, Tryz.ntmps266
  go_wp2_with fail
  generalize hV : (w.alloc (.cells #[.int .i64 0, .slice none 0 0] 29)).alloc (.cells #[.int .i64 room, .slice none 0 0] 29) = V
  have hbV : Below w.heap.size w V := by rw [← hV]; exact bo_alloc ((Below.refl _ _).alloc (Nat.le_refl _) _) _
  have hRB : RowIs V (w.heap.size + 1) 29 [.int .i64 room, .slice none 0 0] := by rw [← hV]; simpa using rowIs_new (w.alloc (.cells #[.int .i64 0, .slice none 0 0] 29)) 29 [.int .i64 room, .slice none 0 0]
  have hRR : RowIs V w.heap.size 29 [.int .i64 0, .slice none 0 0] := by rw [← hV]; exact (rowIs_new w 29 [.int .i64 0, .slice none 0 0]).alloc _
  clear hV
  go_loopw [13] (fun i wr => ∃ (k : Nat) (v : Value), (∃ ad cap, v = .slice ad k cap) ∧ i = .int .i64 k ∧ k ≤ L.length ∧ wr.ownsRow (w.heap.size + 2) 163 2 v k (fv (L.take k)) ∧ RowIs wr (w.heap.size + 1) 29 [.int .i64 room, v] ∧ RowIs wr w.heap.size 29 [.int .i64 0, .slice none 0 0] ∧ Below w.heap.size w wr) (fun i _ => L.length - (intOf i).toNat)
  case atStart => exact ⟨0, _, ⟨_, _, rfl⟩, rfl, Nat.zero_le _, ⟨by simp [fv], .inl ⟨rfl, rfl⟩⟩, hRB, hRR, hbV⟩
  case round =>
    obtain ⟨k, v, ⟨ad, cap, rfl⟩, rfl, hk, hown, hrb, hrr, hb⟩ := hrel
    have hlB : w.heap.size + 1 < wr.heap.size := hrb.lt
    have a0 := hrb.cell (j := 1) rfl
    have a1 := hrb.cell (j := 0) rfl
    have hlb : b < wr.heap.size := Nat.lt_of_lt_of_le hbw hb.size
    have HB0 := hide hb
    have HOwn := hide hown; have HRB := hide hrb; have HRR := hide hrr
    have HRA := hide (H0.out.new hb)
    by_cases hlt : k < L.length
    · have HTK : Hid (fv (L.take (k + 1)) = fv (L.take k) ++ fv [L[k]]) := by show _ = _; rw [List.take_succ_eq_append_getElem hlt, fv_app]
      have hokf := HOK.out _ (List.getElem_mem hlt)
      have hat := ringS_at hfst hlen k hlt
      obtain ⟨f, hff⟩ : ∃ f, L[k] = f := ⟨_, rfl⟩
      rw [hff] at hokf hat HTK
      obtain ⟨kk, hkk⟩ : ∃ kk, (first + k) % 112 = kk := ⟨_, rfl⟩
      have hkk2 : kk < 112 := by omega
      have hat' : (ringS first L)[kk]'(by rw [ringS_len]; exact hkk2) = f := by simp only [← hkk]; exact hat
      obtain ⟨s0', t0'⟩ := rC_slot (ringS_len first L) first L.length (sumW L) kk hkk2
      rw [hat'] at s0' t0'
      have s0 := HRA.out.row.cell s0'
      have t0 := HRA.out.row.cell t0'
      have HKK := hide hkk
      clear hown hrb hrr hb hff hat hat' s0' t0' hkk a1
      go_wp2_with fail
      have HB : Below wr.heap.size wr (World.drew wr) := bo_drewN 1 (Below.refl _ _)
      refine wp_region_any (by kernel_rfl) ?_; change wpAny _ _ _ _ _ _ _ (World.drew _)
      refine wpAny_take (i := 0) (v := ?_) rfl (by kernel_rfl) (by kernel_rfl) (by kernel_rfl) (fun _ _ _ h => h) (Or.inl ⟨by rfl, ?_⟩) ?_; rotate_left; focus (intro w; go_simp; try with_reducible rfl)
      refine wpAny_take (i := 2) (v := ?_) rfl (by kernel_rfl) (by kernel_rfl) (by kernel_rfl) (fun _ _ _ h => h) (Or.inl ⟨by rfl, ?_⟩) ?_; rotate_left; focus (intro w; go_simp; try with_reducible rfl)
      refine wpAny_take (i := 3) (v := ?_) rfl (by kernel_rfl) (by kernel_rfl) (by kernel_rfl) (fun _ _ _ h => h) (Or.inl ⟨by rfl, ?_⟩) ?_; rotate_left; focus (intro w; go_simp; try with_reducible rfl)
      refine wpAny_ready (rs := [1, 4]) (by kernel_rfl) (by simp) ?_; refine AllReady.cons rfl (fun K hK => ?_) (AllReady.cons rfl (fun K hK => ?_) AllReady.nil)
      · go_simp; refine hK _ _ ?_; clear hK K
        refine wpAny_ready (rs := [4]) (by kernel_rfl) (by simp) ?_; refine AllReady.cons rfl (fun K hK => ?_) AllReady.nil
        go_simp
        refine (slot1 b first k (ringS first L) _ _ _ (ringS_len _ _) (HRA.out.new HB).row hfst (by omega)).mono ?_; rw [HKK.out]; rintro x w4 ⟨rfl, hb4⟩
        have h4 : Below wr.heap.size wr w4 := bchain HB hb4
        have a4 := (h4.cell (p := ⟨w.heap.size + 1, 1, none⟩) hlB).trans a0
        have s4 := (h4.cell (p := ⟨b, kk * 2, none⟩) hlb).trans s0
        have t4 := (h4.cell (p := ⟨b, kk * 2 + 1, none⟩) hlb).trans t0
        have hl4 : w.heap.size + 1 < w4.heap.size := Nat.lt_of_lt_of_le hlB h4.size
        replace HB := h4
        refine hK _ _ ?_
        clear hK K
        refine wpAny_take (i := 5) (v := ?_) rfl (by kernel_rfl) (by kernel_rfl) (by kernel_rfl) (fun _ _ _ h => h) (Or.inl ⟨by rfl, ?_⟩) ?_; rotate_left; focus (intro w; go_simp; try with_reducible rfl)
        refine wpAny_ready (rs := [6]) (by kernel_rfl) (by simp) ?_; refine AllReady.cons rfl (fun K hK => ?_) AllReady.nil
        go_simp; refine hK _ _ ?_; clear hK K
        refine wpAny_ready (rs := [7]) (by kernel_rfl) (by simp) ?_; refine AllReady.cons rfl (fun K hK => ?_) AllReady.nil
        go_simp
        refine (apart1 f _ hokf).mono ?_; rintro x w7 ⟨rfl, hb7⟩
        have h7 : Below wr.heap.size wr w7 := bchain HB hb7
        have a7 := (h7.cell (p := ⟨w.heap.size + 1, 1, none⟩) hlB).trans a0
        have s7 := (h7.cell (p := ⟨b, kk * 2, none⟩) hlb).trans s0
        have t7 := (h7.cell (p := ⟨b, kk * 2 + 1, none⟩) hlb).trans t0
        have hl7 : w.heap.size + 1 < w7.heap.size := Nat.lt_of_lt_of_le hlB h7.size
        replace HB := h7
        refine hK _ _ ?_
        clear hK K
        refine wpAny_ready (rs := [8]) (by kernel_rfl) (by simp) ?_; refine AllReady.cons rfl (fun K hK => ?_) AllReady.nil
        go_simp; refine hK _ _ ?_; clear hK K
        refine wpAny_ready (rs := [9]) (by kernel_rfl) (by simp) ?_; refine AllReady.cons rfl (fun K hK => ?_) AllReady.nil
        refine step_app _ (by rfl) _ _ 27 (by rfl) 163 (.agg #[.string ⟨#[]⟩, .string ⟨#[]⟩]) 2 32 Tryz.underlying27 (by kernel_rfl) rfl (by decide) (w.heap.size + 2) _ k (fv (L.take k)) (by rfl) ((owns_new HOwn.out HB).alloc _) _ 1 (fv [f]) (by rfl) (reads_one w7 163 f) (fv_one _) (by omega) (by decide) (by simp; omega) ?_
        intro ad9 cap9 w9 hown9 hgrow9 hat9
        have hx9 := owned_on HOwn.out HRB.out HRR.out (bo_alloc HB _) hgrow9
        clear hat9
        obtain ⟨hrb9, hrr9, hbw9⟩ := hx9
        refine hK _ _ ?_
        clear hK K
        have b9 := hrb9.cell (j := 1) rfl
        have z9 := hrb9.frozen 1
        have ho9 := hide hown9
        have HRB9 := hide hrb9; have HRR9 := hide hrr9
        clear hown9 hgrow9 hrb9 hrr9
        refine wpAny_take (i := 10) (v := ?_) rfl (by kernel_rfl) (by kernel_rfl) (by kernel_rfl) (fun _ _ _ h => h) (Or.inl ⟨by rfl, ?_⟩) ?_; rotate_left; focus (intro w; go_simp; try with_reducible rfl)
        refine wpAny_ready (rs := [11]) (by kernel_rfl) (by simp) ?_; refine AllReady.cons rfl (fun K hK => ?_) AllReady.nil
        go_simp; refine hK _ _ ?_; clear hK K
        refine wpAny_done (by kernel_rfl) ?_ _
        have hv9 : ∀ q, (Value.slice ad9 (k + 1) cap9).ownBlock = some q → w.heap.size + 2 ≤ q := fun q hq => (ho9.out.lt q hq).1
        go_wp2_with fail
        go_roundw
        case rel => exact ⟨k + 1, .slice ad9 (k + 1) cap9, ⟨_, _, rfl⟩, by go_num, by omega, by rw [HTK.out]; exact owns_far (w.heap.size + 2) ho9.out hv9 _ _ (by simp), HRB9.out.set 1 _, HRR9.out.far _ _ (by simp), HB0.out.trans ((hbw9.mono (show w.heap.size ≤ w.heap.size + 2 by omega)).setCell (show w.heap.size ≤ w.heap.size + 1 by omega) _)⟩
        case measure => simp [intOf]; omega
      · go_simp
        refine (slot1 b first k (ringS first L) _ _ _ (ringS_len _ _) (HRA.out.new HB).row hfst (by omega)).mono ?_; rw [HKK.out]; rintro x w4 ⟨rfl, hb4⟩
        have h4 : Below wr.heap.size wr w4 := bchain HB hb4
        have a4 := (h4.cell (p := ⟨w.heap.size + 1, 1, none⟩) hlB).trans a0
        have s4 := (h4.cell (p := ⟨b, kk * 2, none⟩) hlb).trans s0
        have t4 := (h4.cell (p := ⟨b, kk * 2 + 1, none⟩) hlb).trans t0
        have hl4 : w.heap.size + 1 < w4.heap.size := Nat.lt_of_lt_of_le hlB h4.size
        replace HB := h4
        refine hK _ _ ?_
        clear hK K
        refine wpAny_take (i := 5) (v := ?_) rfl (by kernel_rfl) (by kernel_rfl) (by kernel_rfl) (fun _ _ _ h => h) (Or.inl ⟨by rfl, ?_⟩) ?_; rotate_left; focus (intro w; go_simp; try with_reducible rfl)
        refine wpAny_ready (rs := [1, 6]) (by kernel_rfl) (by simp) ?_; refine AllReady.cons rfl (fun K hK => ?_) (AllReady.cons rfl (fun K hK => ?_) AllReady.nil)
        · go_simp; refine hK _ _ ?_; clear hK K
          refine wpAny_ready (rs := [6]) (by kernel_rfl) (by simp) ?_; refine AllReady.cons rfl (fun K hK => ?_) AllReady.nil
          go_simp; refine hK _ _ ?_; clear hK K
          refine wpAny_ready (rs := [7]) (by kernel_rfl) (by simp) ?_; refine AllReady.cons rfl (fun K hK => ?_) AllReady.nil
          go_simp
          refine (apart1 f _ hokf).mono ?_; rintro x w7 ⟨rfl, hb7⟩
          have h7 : Below wr.heap.size wr w7 := bchain HB hb7
          have a7 := (h7.cell (p := ⟨w.heap.size + 1, 1, none⟩) hlB).trans a0
          have s7 := (h7.cell (p := ⟨b, kk * 2, none⟩) hlb).trans s0
          have t7 := (h7.cell (p := ⟨b, kk * 2 + 1, none⟩) hlb).trans t0
          have hl7 : w.heap.size + 1 < w7.heap.size := Nat.lt_of_lt_of_le hlB h7.size
          replace HB := h7
          refine hK _ _ ?_
          clear hK K
          refine wpAny_ready (rs := [8]) (by kernel_rfl) (by simp) ?_; refine AllReady.cons rfl (fun K hK => ?_) AllReady.nil
          go_simp; refine hK _ _ ?_; clear hK K
          refine wpAny_ready (rs := [9]) (by kernel_rfl) (by simp) ?_; refine AllReady.cons rfl (fun K hK => ?_) AllReady.nil
          refine step_app _ (by rfl) _ _ 27 (by rfl) 163 (.agg #[.string ⟨#[]⟩, .string ⟨#[]⟩]) 2 32 Tryz.underlying27 (by kernel_rfl) rfl (by decide) (w.heap.size + 2) _ k (fv (L.take k)) (by rfl) ((owns_new HOwn.out HB).alloc _) _ 1 (fv [f]) (by rfl) (reads_one w7 163 f) (fv_one _) (by omega) (by decide) (by simp; omega) ?_
          intro ad9 cap9 w9 hown9 hgrow9 hat9
          have hx9 := owned_on HOwn.out HRB.out HRR.out (bo_alloc HB _) hgrow9
          clear hat9
          obtain ⟨hrb9, hrr9, hbw9⟩ := hx9
          refine hK _ _ ?_
          clear hK K
          have b9 := hrb9.cell (j := 1) rfl
          have z9 := hrb9.frozen 1
          have ho9 := hide hown9
          have HRB9 := hide hrb9; have HRR9 := hide hrr9
          clear hown9 hgrow9 hrb9 hrr9
          refine wpAny_take (i := 10) (v := ?_) rfl (by kernel_rfl) (by kernel_rfl) (by kernel_rfl) (fun _ _ _ h => h) (Or.inl ⟨by rfl, ?_⟩) ?_; rotate_left; focus (intro w; go_simp; try with_reducible rfl)
          refine wpAny_ready (rs := [11]) (by kernel_rfl) (by simp) ?_; refine AllReady.cons rfl (fun K hK => ?_) AllReady.nil
          go_simp; refine hK _ _ ?_; clear hK K
          refine wpAny_done (by kernel_rfl) ?_ _
          have hv9 : ∀ q, (Value.slice ad9 (k + 1) cap9).ownBlock = some q → w.heap.size + 2 ≤ q := fun q hq => (ho9.out.lt q hq).1
          go_wp2_with fail
          go_roundw
          case rel => exact ⟨k + 1, .slice ad9 (k + 1) cap9, ⟨_, _, rfl⟩, by go_num, by omega, by rw [HTK.out]; exact owns_far (w.heap.size + 2) ho9.out hv9 _ _ (by simp), HRB9.out.set 1 _, HRR9.out.far _ _ (by simp), HB0.out.trans ((hbw9.mono (show w.heap.size ≤ w.heap.size + 2 by omega)).setCell (show w.heap.size ≤ w.heap.size + 1 by omega) _)⟩
          case measure => simp [intOf]; omega
        · go_simp; refine hK _ _ ?_; clear hK K
          refine wpAny_ready (rs := [1, 7]) (by kernel_rfl) (by simp) ?_; refine AllReady.cons rfl (fun K hK => ?_) (AllReady.cons rfl (fun K hK => ?_) AllReady.nil)
          · go_simp; refine hK _ _ ?_; clear hK K
            refine wpAny_ready (rs := [7]) (by kernel_rfl) (by simp) ?_; refine AllReady.cons rfl (fun K hK => ?_) AllReady.nil
            go_simp
            refine (apart1 f _ hokf).mono ?_; rintro x w7 ⟨rfl, hb7⟩
            have h7 : Below wr.heap.size wr w7 := bchain HB hb7
            have a7 := (h7.cell (p := ⟨w.heap.size + 1, 1, none⟩) hlB).trans a0
            have s7 := (h7.cell (p := ⟨b, kk * 2, none⟩) hlb).trans s0
            have t7 := (h7.cell (p := ⟨b, kk * 2 + 1, none⟩) hlb).trans t0
            have hl7 : w.heap.size + 1 < w7.heap.size := Nat.lt_of_lt_of_le hlB h7.size
            replace HB := h7
            refine hK _ _ ?_
            clear hK K
            refine wpAny_ready (rs := [8]) (by kernel_rfl) (by simp) ?_; refine AllReady.cons rfl (fun K hK => ?_) AllReady.nil
            go_simp; refine hK _ _ ?_; clear hK K
            refine wpAny_ready (rs := [9]) (by kernel_rfl) (by simp) ?_; refine AllReady.cons rfl (fun K hK => ?_) AllReady.nil
            refine step_app _ (by rfl) _ _ 27 (by rfl) 163 (.agg #[.string ⟨#[]⟩, .string ⟨#[]⟩]) 2 32 Tryz.underlying27 (by kernel_rfl) rfl (by decide) (w.heap.size + 2) _ k (fv (L.take k)) (by rfl) ((owns_new HOwn.out HB).alloc _) _ 1 (fv [f]) (by rfl) (reads_one w7 163 f) (fv_one _) (by omega) (by decide) (by simp; omega) ?_
            intro ad9 cap9 w9 hown9 hgrow9 hat9
            have hx9 := owned_on HOwn.out HRB.out HRR.out (bo_alloc HB _) hgrow9
            clear hat9
            obtain ⟨hrb9, hrr9, hbw9⟩ := hx9
            refine hK _ _ ?_
            clear hK K
            have b9 := hrb9.cell (j := 1) rfl
            have z9 := hrb9.frozen 1
            have ho9 := hide hown9
            have HRB9 := hide hrb9; have HRR9 := hide hrr9
            clear hown9 hgrow9 hrb9 hrr9
            refine wpAny_take (i := 10) (v := ?_) rfl (by kernel_rfl) (by kernel_rfl) (by kernel_rfl) (fun _ _ _ h => h) (Or.inl ⟨by rfl, ?_⟩) ?_; rotate_left; focus (intro w; go_simp; try with_reducible rfl)
            refine wpAny_ready (rs := [11]) (by kernel_rfl) (by simp) ?_; refine AllReady.cons rfl (fun K hK => ?_) AllReady.nil
            go_simp; refine hK _ _ ?_; clear hK K
            refine wpAny_done (by kernel_rfl) ?_ _
            have hv9 : ∀ q, (Value.slice ad9 (k + 1) cap9).ownBlock = some q → w.heap.size + 2 ≤ q := fun q hq => (ho9.out.lt q hq).1
            go_wp2_with fail
            go_roundw
            case rel => exact ⟨k + 1, .slice ad9 (k + 1) cap9, ⟨_, _, rfl⟩, by go_num, by omega, by rw [HTK.out]; exact owns_far (w.heap.size + 2) ho9.out hv9 _ _ (by simp), HRB9.out.set 1 _, HRR9.out.far _ _ (by simp), HB0.out.trans ((hbw9.mono (show w.heap.size ≤ w.heap.size + 2 by omega)).setCell (show w.heap.size ≤ w.heap.size + 1 by omega) _)⟩
            case measure => simp [intOf]; omega
          · go_simp
            refine (apart1 f _ hokf).mono ?_; rintro x w7 ⟨rfl, hb7⟩
            have h7 : Below wr.heap.size wr w7 := bchain HB hb7
            have a7 := (h7.cell (p := ⟨w.heap.size + 1, 1, none⟩) hlB).trans a0
            have s7 := (h7.cell (p := ⟨b, kk * 2, none⟩) hlb).trans s0
            have t7 := (h7.cell (p := ⟨b, kk * 2 + 1, none⟩) hlb).trans t0
            have hl7 : w.heap.size + 1 < w7.heap.size := Nat.lt_of_lt_of_le hlB h7.size
            replace HB := h7
            refine hK _ _ ?_
            clear hK K
            refine wpAny_ready (rs := [1, 8]) (by kernel_rfl) (by simp) ?_; refine AllReady.cons rfl (fun K hK => ?_) (AllReady.cons rfl (fun K hK => ?_) AllReady.nil)
            · go_simp; refine hK _ _ ?_; clear hK K
              refine wpAny_ready (rs := [8]) (by kernel_rfl) (by simp) ?_; refine AllReady.cons rfl (fun K hK => ?_) AllReady.nil
              go_simp; refine hK _ _ ?_; clear hK K
              refine wpAny_ready (rs := [9]) (by kernel_rfl) (by simp) ?_; refine AllReady.cons rfl (fun K hK => ?_) AllReady.nil
              refine step_app _ (by rfl) _ _ 27 (by rfl) 163 (.agg #[.string ⟨#[]⟩, .string ⟨#[]⟩]) 2 32 Tryz.underlying27 (by kernel_rfl) rfl (by decide) (w.heap.size + 2) _ k (fv (L.take k)) (by rfl) ((owns_new HOwn.out HB).alloc _) _ 1 (fv [f]) (by rfl) (reads_one w7 163 f) (fv_one _) (by omega) (by decide) (by simp; omega) ?_
              intro ad9 cap9 w9 hown9 hgrow9 hat9
              have hx9 := owned_on HOwn.out HRB.out HRR.out (bo_alloc HB _) hgrow9
              clear hat9
              obtain ⟨hrb9, hrr9, hbw9⟩ := hx9
              refine hK _ _ ?_
              clear hK K
              have b9 := hrb9.cell (j := 1) rfl
              have z9 := hrb9.frozen 1
              have ho9 := hide hown9
              have HRB9 := hide hrb9; have HRR9 := hide hrr9
              clear hown9 hgrow9 hrb9 hrr9
              refine wpAny_take (i := 10) (v := ?_) rfl (by kernel_rfl) (by kernel_rfl) (by kernel_rfl) (fun _ _ _ h => h) (Or.inl ⟨by rfl, ?_⟩) ?_; rotate_left; focus (intro w; go_simp; try with_reducible rfl)
              refine wpAny_ready (rs := [11]) (by kernel_rfl) (by simp) ?_; refine AllReady.cons rfl (fun K hK => ?_) AllReady.nil
              go_simp; refine hK _ _ ?_; clear hK K
              refine wpAny_done (by kernel_rfl) ?_ _
              have hv9 : ∀ q, (Value.slice ad9 (k + 1) cap9).ownBlock = some q → w.heap.size + 2 ≤ q := fun q hq => (ho9.out.lt q hq).1
              go_wp2_with fail
              go_roundw
              case rel => exact ⟨k + 1, .slice ad9 (k + 1) cap9, ⟨_, _, rfl⟩, by go_num, by omega, by rw [HTK.out]; exact owns_far (w.heap.size + 2) ho9.out hv9 _ _ (by simp), HRB9.out.set 1 _, HRR9.out.far _ _ (by simp), HB0.out.trans ((hbw9.mono (show w.heap.size ≤ w.heap.size + 2 by omega)).setCell (show w.heap.size ≤ w.heap.size + 1 by omega) _)⟩
              case measure => simp [intOf]; omega
            · go_simp; refine hK _ _ ?_; clear hK K
              refine wpAny_ready (rs := [1]) (by kernel_rfl) (by simp) ?_; refine AllReady.cons rfl (fun K hK => ?_) AllReady.nil
              go_simp; refine hK _ _ ?_; clear hK K
              refine wpAny_ready (rs := [9]) (by kernel_rfl) (by simp) ?_; refine AllReady.cons rfl (fun K hK => ?_) AllReady.nil
              refine step_app _ (by rfl) _ _ 27 (by rfl) 163 (.agg #[.string ⟨#[]⟩, .string ⟨#[]⟩]) 2 32 Tryz.underlying27 (by kernel_rfl) rfl (by decide) (w.heap.size + 2) _ k (fv (L.take k)) (by rfl) ((owns_new HOwn.out HB).alloc _) _ 1 (fv [f]) (by rfl) (reads_one w7 163 f) (fv_one _) (by omega) (by decide) (by simp; omega) ?_
              intro ad9 cap9 w9 hown9 hgrow9 hat9
              have hx9 := owned_on HOwn.out HRB.out HRR.out (bo_alloc HB _) hgrow9
              clear hat9
              obtain ⟨hrb9, hrr9, hbw9⟩ := hx9
              refine hK _ _ ?_
              clear hK K
              have b9 := hrb9.cell (j := 1) rfl
              have z9 := hrb9.frozen 1
              have ho9 := hide hown9
              have HRB9 := hide hrb9; have HRR9 := hide hrr9
              clear hown9 hgrow9 hrb9 hrr9
              refine wpAny_take (i := 10) (v := ?_) rfl (by kernel_rfl) (by kernel_rfl) (by kernel_rfl) (fun _ _ _ h => h) (Or.inl ⟨by rfl, ?_⟩) ?_; rotate_left; focus (intro w; go_simp; try with_reducible rfl)
              refine wpAny_ready (rs := [11]) (by kernel_rfl) (by simp) ?_; refine AllReady.cons rfl (fun K hK => ?_) AllReady.nil
              go_simp; refine hK _ _ ?_; clear hK K
              refine wpAny_done (by kernel_rfl) ?_ _
              have hv9 : ∀ q, (Value.slice ad9 (k + 1) cap9).ownBlock = some q → w.heap.size + 2 ≤ q := fun q hq => (ho9.out.lt q hq).1
              go_wp2_with fail
              go_roundw
              case rel => exact ⟨k + 1, .slice ad9 (k + 1) cap9, ⟨_, _, rfl⟩, by go_num, by omega, by rw [HTK.out]; exact owns_far (w.heap.size + 2) ho9.out hv9 _ _ (by simp), HRB9.out.set 1 _, HRR9.out.far _ _ (by simp), HB0.out.trans ((hbw9.mono (show w.heap.size ≤ w.heap.size + 2 by omega)).setCell (show w.heap.size ≤ w.heap.size + 1 by omega) _)⟩
              case measure => simp [intOf]; omega
    · obtain rfl : k = L.length := by omega
      rw [List.take_length] at hown HOwn
      have r0 := hrr.cell (j := 0) rfl
      have r1 := hrr.cell (j := 1) rfl
      have r2 := hrr.frozen 0
      have r3 := hrr.frozen 1
      clear hrr hrb hb
      go_wp2_with fail
      refine bodyPost_ret (v := .agg #[.int .i64 room, .slice ad L.length cap]) (by simp [results, Tryz.results266, go_sem, *]) rfl ?_
      exact ⟨_, rfl, owns_base (owns_far (w.heap.size + 2) (owns_far (w.heap.size + 2) HOwn.out (fun q hq => (HOwn.out.lt q hq).1) _ _ (by simp)) (fun q hq => (HOwn.out.lt q hq).1) _ _ (by simp)) (fun q hq => by have := (HOwn.out.lt q hq).1; omega), (HB0.out.setCell (Nat.le_refl _) _).setCell (Nat.le_refl _) _⟩
end Go.Proofs.YtfmeinkhdgbgjaaGreat
