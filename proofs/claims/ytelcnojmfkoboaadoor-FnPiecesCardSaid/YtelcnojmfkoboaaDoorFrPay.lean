/- Chapter 7's Payload, of the program and of the model. -/
import Derived.Test.YtelcnojmfkoboaaDoorFrShow

namespace Go.Proofs.YtelcnojmfkoboaaDoor
open Go.RowKit
set_option maxRecDepth 100000
set_option linter.unusedSimpArgs false
set_option linter.unusedVariables false
theorem ext_ext {s : ByteArray} {i j m : Nat} (h : j ≤ s.size) (hm : i + m ≤ j) : (s.extract i j).extract 0 m = s.extract i (i + m) := by
  refine bys_inj ?_
  rw [bys_extract, bys_extract, bys_extract, List.drop_zero, List.take_drop, List.take_take]
  congr 2
  omega
theorem ok_pad {k fl st : Int} {b : ByteArray} (h : okFr ⟨k, fl, st, b⟩ = true) (hk : k = 1) (hf : 2 ≤ fl) : ∃ h0 : 0 < b.size, (b[0].toNat : Int) ≤ (b.size : Int) - 1 := by
  have hh := ok_head h
  dsimp only at hh
  have hpos := hd_pad hh hk hf
  rw [okFr_mk, Bool.and_eq_true] at h
  have h2 := h.2
  unfold bodB at h2
  rw [if_pos ⟨hk, hf⟩, fst0_get (by omega)] at h2
  exact ⟨by omega, of_decide_eq_true h2⟩

set_option maxHeartbeats 1000000 in
theorem implPayload (k fl st : Int) (b : ByteArray) (w : World) (hb : b.size ≤ maxLen) : Calls Tryd.prog 17 #[.agg #[.int .i64 k, .int .i64 fl, .int .i64 st, .string b]] w fun e w' => e = .returned (.string (payV ⟨k, fl, st, b⟩)) ∧ Below w.heap.size w w' := by
  have hbm := hb
  unfold maxLen at hb
  cases hok : okFr ⟨k, fl, st, b⟩
  · have hv : payV ⟨k, fl, st, b⟩ = ⟨#[]⟩ := by simp [payV, hok]
    rw [hv]
    go_enter Tryd.func17, Tryd.ntmps17
    go_wp2_with fail
    refine (implFrameOk k fl st b _ hbm).mono ?_; rw [hok]; rintro e w1 ⟨rfl, hb1⟩
    go_wp2_with fail
    go_ret
    exact ⟨rfl, (by repeat' (first | (with_reducible exact Below.refl _ _) | (with_reducible refine Below.drew ?_) | (with_reducible refine bo_drewN _ ?_) | (with_reducible refine bo_alloc ?_ _) | (refine bchain ?_ (by with_reducible assumption)) | (with_reducible refine Below.setCell ?_ ?_ _) | go_size))⟩
  · have hh := ok_head hok
    dsimp only at hh
    obtain ⟨p1, p2, p3, p4, p5, p6, p7, p8⟩ := hd_parts hh
    have hp := fun w => implPadded k fl st b w p1 p2
    have HOK := hide hok
    clear hh
    by_cases hk : k = 1 ∧ 2 ≤ fl
    · have hpb : padB k fl = true := by simp [padB, hk.1, hk.2]
      rw [hpb] at hp
      obtain ⟨hpos, hle⟩ := ok_pad hok hk.1 hk.2
      have hby := byte_range b 0 hpos
      obtain ⟨z, hz⟩ : ∃ z : Nat, z = b[0].toNat := ⟨_, rfl⟩
      have hv : payV ⟨k, fl, st, b⟩ = b.extract 1 (b.size - z) := by
        unfold payV; rw [if_pos hok, if_pos hk, fst0_get hpos, ← hz]
        dsimp only
        congr 1; omega
      rw [hv]
      have hx : (b.extract 1 b.size).size = b.size - 1 := ba_extract_size (Nat.le_refl _) (by omega)
      have he : (b.extract 1 b.size).extract 0 (b.size - 1 - z) = b.extract 1 (b.size - z) := by
        rw [ext_ext (Nat.le_refl _) (by omega)]; congr 1; omega
      obtain ⟨X, hX⟩ : ∃ X, b.extract 1 b.size = X := ⟨_, rfl⟩
      rw [hX] at hx he
      have hsl1 : ∀ w, (Instr.slice 9 (.string b) (some (.int .i64 1)) none none).run Tryd.prog w = .ok (.string X) w := fun w => by
        rw [run_slice_string_from_if (P := Tryd.prog) w 9 b .i64 1 Tryd.underlying9, if_pos ⟨by omega, by omega⟩, ← hX]; rfl
      have hsl2 : ∀ w, (Instr.slice 9 (.string X) none (some (.int .i64 ((X.size : Int) - z))) none).run Tryd.prog w = .ok (.string (b.extract 1 (b.size - z))) w := fun w => by
        rw [run_slice_string_to_if (P := Tryd.prog) w 9 X .i64 _ Tryd.underlying9, if_pos ⟨by omega, by omega⟩, ← he]; congr 3; omega
      have hle2 : (b.extract 1 (b.size - z)).size ≤ 281474976710656 := by rw [ba_extract_size (by omega) (by omega)]; omega
      have hzle : (z : Int) ≤ 255 := by omega
      have hX1 : (z : Int) ≤ (X.size : Int) := by omega
      have hX2 : (X.size : Int) ≤ 1000 := by omega
      generalize b.extract 1 (b.size - z) = Y at *
      have HX := hide hx
      clear hv hpb hx he hX hk hok
      have HZ := hide hz
      rw [← hz] at hby hle
      go_enter Tryd.func17, Tryd.ntmps17
      go_wp2_with fail
      refine (implFrameOk k fl st b _ hbm).mono ?_; rw [HOK.out]; rintro e w1 ⟨rfl, hb1⟩
      have c0 : w1.cell? ⟨w.heap.size, 0, none⟩ = some (.int .i64 k) := by rw [hb1.cell (p := ⟨w.heap.size, 0, none⟩) (by simp)]; simp
      have c1 : w1.cell? ⟨w.heap.size, 1, none⟩ = some (.int .i64 fl) := by rw [hb1.cell (p := ⟨w.heap.size, 1, none⟩) (by simp)]; simp
      have c2 : w1.cell? ⟨w.heap.size, 2, none⟩ = some (.int .i64 st) := by rw [hb1.cell (p := ⟨w.heap.size, 2, none⟩) (by simp)]; simp
      have c3 : w1.cell? ⟨w.heap.size, 3, none⟩ = some (.string b) := by rw [hb1.cell (p := ⟨w.heap.size, 3, none⟩) (by simp)]; simp
      have hlt : w.heap.size < w1.heap.size := by have := hb1.size; simp at this; omega
      go_wp2_with fail
      refine (hp _).mono ?_; rintro e w2 ⟨rfl, hb2⟩
      have d3 : w2.cell? ⟨w.heap.size, 3, none⟩ = some (.string b) := (hb2.cell (p := ⟨w.heap.size, 3, none⟩) hlt).trans c3
      have hzz := HZ.out
      rw [hz] at *
      clear hz
      go_wp2_with fail
      go_quiet (fail)
      go_wp2_with fail
      refine (clone Y _ hle2).mono ?_; rintro e w3 ⟨rfl, hb3⟩
      go_wp2_with fail
      go_ret
      exact ⟨rfl, (by repeat' (first | (with_reducible exact Below.refl _ _) | (with_reducible refine Below.drew ?_) | (with_reducible refine bo_drewN _ ?_) | (with_reducible refine bo_alloc ?_ _) | (refine bchain ?_ (by with_reducible assumption)) | (with_reducible refine Below.setCell ?_ ?_ _) | go_size))⟩
    · have hpb : padB k fl = false := by
        cases e : padB k fl
        · rfl
        · simp [padB] at e; exact absurd e hk
      rw [hpb] at hp
      have hv : payV ⟨k, fl, st, b⟩ = b := by unfold payV; rw [if_pos hok, if_neg hk]
      rw [hv]
      clear hv hpb hok hk
      go_enter Tryd.func17, Tryd.ntmps17
      go_wp2_with fail
      refine (implFrameOk k fl st b _ hbm).mono ?_; rw [HOK.out]; rintro e w1 ⟨rfl, hb1⟩
      have c0 : w1.cell? ⟨w.heap.size, 0, none⟩ = some (.int .i64 k) := by rw [hb1.cell (p := ⟨w.heap.size, 0, none⟩) (by simp)]; simp
      have c1 : w1.cell? ⟨w.heap.size, 1, none⟩ = some (.int .i64 fl) := by rw [hb1.cell (p := ⟨w.heap.size, 1, none⟩) (by simp)]; simp
      have c2 : w1.cell? ⟨w.heap.size, 2, none⟩ = some (.int .i64 st) := by rw [hb1.cell (p := ⟨w.heap.size, 2, none⟩) (by simp)]; simp
      have c3 : w1.cell? ⟨w.heap.size, 3, none⟩ = some (.string b) := by rw [hb1.cell (p := ⟨w.heap.size, 3, none⟩) (by simp)]; simp
      have hlt : w.heap.size < w1.heap.size := by have := hb1.size; simp at this; omega
      go_wp2_with fail
      refine (hp _).mono ?_; rintro e w2 ⟨rfl, hb2⟩
      have d3 : w2.cell? ⟨w.heap.size, 3, none⟩ = some (.string b) := (hb2.cell (p := ⟨w.heap.size, 3, none⟩) hlt).trans c3
      go_wp2_with fail
      refine (clone b _ (by omega)).mono ?_; rintro e w3 ⟨rfl, hb3⟩
      go_wp2_with fail
      go_ret
      exact ⟨rfl, (by repeat' (first | (with_reducible exact Below.refl _ _) | (with_reducible refine Below.drew ?_) | (with_reducible refine bo_drewN _ ?_) | (with_reducible refine bo_alloc ?_ _) | (refine bchain ?_ (by with_reducible assumption)) | (with_reducible refine Below.setCell ?_ ?_ _) | go_size))⟩
set_option maxHeartbeats 1000000 in
theorem specPayload (k fl st : Int) (b : ByteArray) (w : World) (hb : b.size ≤ maxLen) : Calls Tryd.prog 18 #[.agg #[.int .i64 k, .int .i64 fl, .int .i64 st, .string b]] w fun e w' => e = .returned (.string (payV ⟨k, fl, st, b⟩)) ∧ Below w.heap.size w w' := by
  have hbm := hb
  unfold maxLen at hb
  cases hok : okFr ⟨k, fl, st, b⟩
  · have hv : payV ⟨k, fl, st, b⟩ = ⟨#[]⟩ := by simp [payV, hok]
    rw [hv]
    go_enter Tryd.func18, Tryd.ntmps18
    go_wp2_with fail
    refine (specFrameOk k fl st b _ hbm).mono ?_; rw [hok]; rintro e w1 ⟨rfl, hb1⟩
    go_wp2_with fail
    go_ret
    exact ⟨rfl, (by repeat' (first | (with_reducible exact Below.refl _ _) | (with_reducible refine Below.drew ?_) | (with_reducible refine bo_drewN _ ?_) | (with_reducible refine bo_alloc ?_ _) | (refine bchain ?_ (by with_reducible assumption)) | (with_reducible refine Below.setCell ?_ ?_ _) | go_size))⟩
  · have HOK := hide hok
    by_cases hk : k = 1 ∧ 2 ≤ fl
    · obtain ⟨rfl, hf⟩ := hk
      obtain ⟨hpos, hle⟩ := ok_pad hok rfl hf
      have hby := byte_range b 0 hpos
      have hv : payV ⟨1, fl, st, b⟩ = b.extract 1 (b.size - b[0].toNat) := by
        unfold payV; rw [if_pos hok, if_pos ⟨rfl, hf⟩, fst0_get hpos]
        dsimp only
        congr 1; omega
      rw [hv]
      have hsl1 : ∀ w, (Instr.slice 9 (.string b) (some (.int .i64 1)) (some (.int .i64 ((b.size : Int) - b[0].toNat))) none).run Tryd.prog w = .ok (.string (b.extract 1 (b.size - b[0].toNat))) w := fun w => by
        rw [run_slice_string (P := Tryd.prog) w 9 b .i64 .i64 1 ((b.size : Int) - b[0].toNat) Tryd.underlying9 (by omega) (by omega) (by omega)]; congr 3; omega
      generalize b.extract 1 (b.size - b[0].toNat) = Y at *
      clear hv hok
      go_enter Tryd.func18, Tryd.ntmps18
      go_wp2_with fail
      refine (specFrameOk 1 fl st b _ hbm).mono ?_; rw [HOK.out]; rintro e w1 ⟨rfl, hb1⟩
      have c0 : w1.cell? ⟨w.heap.size, 0, none⟩ = some (.int .i64 1) := by rw [hb1.cell (p := ⟨w.heap.size, 0, none⟩) (by simp)]; simp
      have c1 : w1.cell? ⟨w.heap.size, 1, none⟩ = some (.int .i64 fl) := by rw [hb1.cell (p := ⟨w.heap.size, 1, none⟩) (by simp)]; simp
      have c3 : w1.cell? ⟨w.heap.size, 3, none⟩ = some (.string b) := by rw [hb1.cell (p := ⟨w.heap.size, 3, none⟩) (by simp)]; simp
      have hlt : w.heap.size < w1.heap.size := by have := hb1.size; simp at this; omega
      go_wp2_with fail
      go_quiet (fail)
      go_wp2_with fail
      go_ret
      exact ⟨rfl, (by repeat' (first | (with_reducible exact Below.refl _ _) | (with_reducible refine Below.drew ?_) | (with_reducible refine bo_drewN _ ?_) | (with_reducible refine bo_alloc ?_ _) | (refine bchain ?_ (by with_reducible assumption)) | (with_reducible refine Below.setCell ?_ ?_ _) | go_size))⟩
    · have hv : payV ⟨k, fl, st, b⟩ = b := by unfold payV; rw [if_pos hok, if_neg hk]
      rw [hv]
      have hk2 : k = 1 → ¬ 2 ≤ fl := fun a c => hk ⟨a, c⟩
      clear hv hok hk
      by_cases h1 : k = 1
      · subst h1
        have hf := hk2 rfl
        clear hk2
        go_enter Tryd.func18, Tryd.ntmps18
        go_wp2_with fail
        refine (specFrameOk 1 fl st b _ hbm).mono ?_; rw [HOK.out]; rintro e w1 ⟨rfl, hb1⟩
        have c0 : w1.cell? ⟨w.heap.size, 0, none⟩ = some (.int .i64 1) := by rw [hb1.cell (p := ⟨w.heap.size, 0, none⟩) (by simp)]; simp
        have c1 : w1.cell? ⟨w.heap.size, 1, none⟩ = some (.int .i64 fl) := by rw [hb1.cell (p := ⟨w.heap.size, 1, none⟩) (by simp)]; simp
        have c3 : w1.cell? ⟨w.heap.size, 3, none⟩ = some (.string b) := by rw [hb1.cell (p := ⟨w.heap.size, 3, none⟩) (by simp)]; simp
        go_wp2_with fail
        go_ret
        exact ⟨rfl, (by repeat' (first | (with_reducible exact Below.refl _ _) | (with_reducible refine Below.drew ?_) | (with_reducible refine bo_drewN _ ?_) | (with_reducible refine bo_alloc ?_ _) | (refine bchain ?_ (by with_reducible assumption)) | (with_reducible refine Below.setCell ?_ ?_ _) | go_size))⟩
      · clear hk2
        go_enter Tryd.func18, Tryd.ntmps18
        go_wp2_with fail
        refine (specFrameOk k fl st b _ hbm).mono ?_; rw [HOK.out]; rintro e w1 ⟨rfl, hb1⟩
        have c0 : w1.cell? ⟨w.heap.size, 0, none⟩ = some (.int .i64 k) := by rw [hb1.cell (p := ⟨w.heap.size, 0, none⟩) (by simp)]; simp
        have c3 : w1.cell? ⟨w.heap.size, 3, none⟩ = some (.string b) := by rw [hb1.cell (p := ⟨w.heap.size, 3, none⟩) (by simp)]; simp
        go_wp2_with fail
        go_ret
        exact ⟨rfl, (by repeat' (first | (with_reducible exact Below.refl _ _) | (with_reducible refine Below.drew ?_) | (with_reducible refine bo_drewN _ ?_) | (with_reducible refine bo_alloc ?_ _) | (refine bchain ?_ (by with_reducible assumption)) | (with_reducible refine Below.setCell ?_ ?_ _) | go_size))⟩
end Go.Proofs.YtelcnojmfkoboaaDoor
