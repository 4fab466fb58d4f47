/- The model's word on a Table. -/
import Derived.Test.YtejmnkabmajebaaWeigh
import Derived.Test.YtejmnkabmajebaaLater

namespace Go.Proofs.Ytejmnkabmajebaa
open Go.RowKit
set_option maxRecDepth 100000
set_option linter.unusedSimpArgs false
set_option linter.unusedVariables false

theorem all_take_succ (L : List Fd) (k : Nat) (h : k < L.length) (ha : ∀ f ∈ L.take k, okF f = true) (hk : okF L[k] = true) : ∀ f ∈ L.take (k + 1), okF f = true := by
  rw [List.take_succ_eq_append_getElem h]
  intro f hf
  rcases List.mem_append.1 hf with h | h
  · exact ha f h
  · simp only [List.mem_singleton] at h; rw [h]; exact hk
theorem okT_room {room : Int} {L : List Fd} (h : inB room 0 1000 = false) : okT room L = false := by simp [okT, h]
theorem okT_long {room : Int} {L : List Fd} (h : 111 < L.length) : okT room L = false := by
  cases he : okT room L
  · rfl
  · have := (okT_parts he).2.2.2.2; omega
theorem okT_bad {room : Int} {L : List Fd} (k : Nat) (hk : k < L.length) (h : okF L[k] = false) : okT room L = false := by
  cases he : okT room L
  · rfl
  · have := (okT_parts he).2.2.1 _ (List.getElem_mem hk); rw [h] at this; cases this
theorem okT_sum {room : Int} {L : List Fd} (h1 : inB room 0 1000 = true) (h2 : ∀ f ∈ L, okF f = true) : okT room L = decide (sumW L ≤ room) := by
  have : L.all okF = true := List.all_eq_true.2 h2
  simp [okT, h1, this]

set_option maxHeartbeats 1000000 in
theorem specTOk (L : List Fd) (room : Int) (v : Value) (w : World) (hr0 : Reads w v L.length 2 (fv L)) (hf : ∀ f ∈ L, f.fine) :
    Calls Try.prog 50 #[.agg #[.int .i64 room, v]] w fun x w' => x = .returned (.bool (okT room L)) ∧ Below w.heap.size w w' := by
  have HR := hide hr0; have HF := hide hf
  obtain ⟨hl, ad, cap, rfl, h1, h2, h3⟩ := hr0
  have H3 := hide h3
  clear h3 hf
  unfold maxLen at h2
  cases hrm : inB room 0 1000
  · rw [okT_room hrm]
    go_enter Try.func50, Try.ntmps50
    go_wp2_with fail
    refine (specIn _ _ _ _).mono ?_; rw [hrm]; rintro e w1 ⟨rfl, rfl⟩
    go_wp2_with fail
    go_ret
    exact ⟨rfl, (by repeat' (first | (with_reducible exact Below.refl _ _) | (with_reducible refine Below.drew ?_) | (with_reducible refine bo_drewN _ ?_) | (with_reducible refine bo_alloc ?_ _) | (refine bchain ?_ (by with_reducible assumption)) | (with_reducible refine Below.setCell ?_ ?_ _) | go_size))⟩
  · by_cases hlen : (200 : Int) < L.length
    · rw [okT_long (by omega)]
      go_enter Try.func50, Try.ntmps50
      go_wp2_with fail
      refine (specIn _ _ _ _).mono ?_; rw [hrm]; rintro e w1 ⟨rfl, rfl⟩
      go_wp2_with fail
      go_ret
      exact ⟨rfl, (by repeat' (first | (with_reducible exact Below.refl _ _) | (with_reducible refine Below.drew ?_) | (with_reducible refine bo_drewN _ ?_) | (with_reducible refine bo_alloc ?_ _) | (refine bchain ?_ (by with_reducible assumption)) | (with_reducible refine Below.setCell ?_ ?_ _) | go_size))⟩
    · obtain ⟨R, hR⟩ : ∃ R, R = okT room L := ⟨_, rfl⟩
      rw [← hR]
      have HRR := hide hR
      clear hR
      go_enter Try.func50, Try.ntmps50
      go_wp2_with fail
      refine (specIn _ _ _ _).mono ?_; rw [hrm]; rintro e w1 ⟨rfl, rfl⟩
      go_wp2_with fail
      generalize hV : w.alloc (.cells #[.int .i64 room, .slice ad L.length cap] 26) = V
      have hbV : Below w.heap.size w V := by rw [← hV]; exact (Below.refl _ _).alloc (Nat.le_refl _) _
      have x0 : V.cell? ⟨w.heap.size, 0, none⟩ = some (.int .i64 room) := by rw [← hV]; simp
      have x1 : V.cell? ⟨w.heap.size, 1, none⟩ = some (.slice ad L.length cap) := by rw [← hV]; simp
      have hlV : w.heap.size < V.heap.size := by rw [← hV]; simp
      clear hV
      go_loopw [3] (fun i wr => ∃ (k : Nat), i = .int .i64 k ∧ k ≤ L.length ∧ (∀ f ∈ L.take k, okF f = true) ∧ Below V.heap.size V wr) (fun i _ => L.length - (intOf i).toNat)
      case atStart => exact ⟨0, rfl, Nat.zero_le _, by simp, Below.refl _ _⟩
      case round =>
        obtain ⟨k, rfl, hk, hall, hb⟩ := hrel
        have y0 := (hb.cell (p := ⟨w.heap.size, 0, none⟩) hlV).trans x0
        have y1 := (hb.cell (p := ⟨w.heap.size, 1, none⟩) hlV).trans x1
        have hly : w.heap.size < wr.heap.size := Nat.lt_of_lt_of_le hlV hb.size
        clear x0 x1
        by_cases hlt : k < L.length
        · obtain ⟨b, o, rfl, hbw, hc⟩ := H3.out (by omega)
          obtain ⟨s0, s1⟩ := fv_get L k hlt
          have hfk := HF.out _ (List.getElem_mem hlt)
          have hbr := hbV.trans (hb.mono hbV.size)
          have HA := hide (all_take_succ L k hlt hall)
          have HB := hide (okT_bad (room := room) k hlt)
          obtain ⟨f, hff⟩ : ∃ f, f = L[k] := ⟨_, rfl⟩
          rw [← hff] at s0 s1 hfk HA HB
          have c0 : wr.cell? ⟨b, o + k * 2, none⟩ = some (.string f.n) := by rw [hbr.cell (p := ⟨b, o + k * 2, none⟩) hbw]; exact hc _ _ s0
          have c1 : wr.cell? ⟨b, o + k * 2 + 1, none⟩ = some (.string f.v) := by rw [hbr.cell (p := ⟨b, o + k * 2 + 1, none⟩) hbw]; exact hc _ _ s1
          clear hc s0 s1 hff hall hbr
          cases hok : okF f
          · have hRf := HRR.out.trans (HB.out hok)
            subst hRf
            clear HB HRR HA
            go_wp2_with fail
            refine (specField f _ hfk).mono ?_; rw [hok]; rintro x w1 ⟨rfl, hb1⟩
            go_wp2_with fail
            go_ret
            exact ⟨rfl, (hbV.trans (hb.mono hbV.size)).trans (hb1.mono (by have := hb.size; have := hbV.size; omega))⟩
          · go_wp2_with fail
            refine (specField f _ hfk).mono ?_; rw [hok]; rintro x w1 ⟨rfl, hb1⟩
            have hy' := (hb1.cell (p := ⟨w.heap.size, 1, none⟩) hly).trans y1
            go_wp2_with fail
            exact ⟨⟨k + 1, by go_num, by omega, HA.out hok, bchain hb hb1⟩, by simp [intOf]; omega⟩
        · obtain rfl : k = L.length := by omega
          rw [List.take_length] at hall
          have hRf := HRR.out.trans (okT_sum hrm hall)
          subst hRf
          clear HRR hall H3
          have HR' := hide (HR.out.new (hbV.trans (hb.mono hbV.size)))
          have hsl := Nat.le_trans hbV.size hb.size
          go_wp2_with fail
          have q0 : ∀ y : Later wr, y.w.cell? ⟨w.heap.size, 0, none⟩ = some (.int .i64 room) := fun y => (y.b.cell (p := ⟨w.heap.size, 0, none⟩) hly).trans y0
          have q1 : ∀ y : Later wr, y.w.cell? ⟨w.heap.size, 1, none⟩ = some (.slice ad L.length cap) := fun y => (y.b.cell (p := ⟨w.heap.size, 1, none⟩) hly).trans y1
          have hne : Nonempty (Later wr) := ⟨⟨wr, Below.refl _ _⟩⟩; refine region_later (by kernel_rfl) (by kernel_rfl) ?_
          repeat (go_big_quiet_step (fail))
          go_big_quiet_want; go_big_quiet_op; refine ⟨.int .i64 (sumW L), fun y => later_calls (x := y) ((fun _ => specSum L _ y.w (HR'.out.new y.b) HF.out (by omega)) y.w), ?_⟩; go_big_quiet_on
          repeat (go_big_quiet_step (fail))
          refine wpQuiet_nil ?_; intro _ hw'; obtain ⟨y, hw''⟩ := hw'; subst hw''; have hby := y.b
          go_wp2_with fail
          go_ret
          exact ⟨rfl, (hbV.trans (hb.mono hbV.size)).trans (hby.mono hsl)⟩
end Go.Proofs.Ytejmnkabmajebaa
