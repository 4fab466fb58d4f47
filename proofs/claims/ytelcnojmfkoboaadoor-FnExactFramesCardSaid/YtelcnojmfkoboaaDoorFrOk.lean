/- Chapter 7's FrameOk, of the program and of the model. -/
import Derived.Test.YtelcnojmfkoboaaDoorFrHead

namespace Go.Proofs.YtelcnojmfkoboaaDoor
open Go.RowKit
set_option maxRecDepth 100000
set_option linter.unusedSimpArgs false
set_option linter.unusedVariables false
def bodB (k fl : Int) (b : ByteArray) : Bool := if k = 1 ∧ 2 ≤ fl then decide (fst0 b ≤ (b.size : Int) - 1) else if k = 7 then !(b.toList == (⟨#[0, 0, 0]⟩ : ByteArray).toList) else true
theorem okFr_eq (f : Fr) : okFr f = (hdOk f.k f.fl f.st f.b.size && bodB f.k f.fl f.b) := rfl
theorem okFr_mk (k fl st : Int) (b : ByteArray) : okFr ⟨k, fl, st, b⟩ = (hdOk k fl st b.size && bodB k fl b) := rfl
theorem fst0_get {s : ByteArray} (h : 0 < s.size) : fst0 s = (s[0].toNat : Int) := by
  unfold fst0; rw [bys_cons h]
theorem zero3 {b : ByteArray} (h : b.size = 3) : (numV b = 0) ↔ b = ⟨#[0, 0, 0]⟩ := by
  constructor
  · intro e
    have := law_byt (s := b) (by omega)
    rw [h, e] at this
    rw [← this]; rfl
  · intro e; rw [e]; rfl
theorem tl000 : (⟨#[0, 0, 0]⟩ : ByteArray).toList = [0, 0, 0] := by rw [ByteArray.toList_eq]
theorem hd_pad {k fl st n : Int} (h : hdOk k fl st n = true) (hk : k = 1) (hf : 2 ≤ fl) : 0 < n := by
  have := hd_parts h
  subst hk
  unfold hdOk at h
  split at h
  · cases h
  · simp at h; omega
theorem hd_win {st fl n : Int} (h : hdOk 7 fl st n = true) : n = 3 := by
  unfold hdOk at h
  split at h
  · cases h
  · simp at h; omega

set_option maxHeartbeats 1000000 in
theorem implBody (k fl st : Int) (b : ByteArray) (w : World) (hb : b.size ≤ maxLen) (hh : hdOk k fl st b.size = true) : Calls Tryd.prog 42 #[.agg #[.int .i64 k, .int .i64 fl, .int .i64 st, .string b]] w fun e w' => e = .returned (.bool (bodB k fl b)) ∧ Below w.heap.size w w' := by
  have hbm := hb
  unfold maxLen at hb
  obtain ⟨p1, p2, p3, p4, p5, p6, p7, p8⟩ := hd_parts hh
  have HH := hide hh
  clear hh
  have hp := implPadded k fl st b
  by_cases hk : k = 1 ∧ 2 ≤ fl
  · obtain ⟨rfl, hf⟩ := hk
    have hpb : padB 1 fl = true := by simp [padB, hf]
    rw [hpb] at hp
    have hpos : 0 < b.size := by have := hd_pad HH.out rfl hf; omega
    have hv : bodB 1 fl b = decide (b[0].toNat < b.size) := by
      unfold bodB; rw [if_pos ⟨rfl, hf⟩, fst0_get hpos]
      exact decide_eq_decide.2 (by omega)
    rw [hv]
    have hby := byte_range b 0 hpos
    clear hv hpb
    go_enter Tryd.func42, Tryd.ntmps42
    go_wp2_with fail
    refine (hp _ p1 p2).mono ?_; rintro e w1 ⟨rfl, hb1⟩
    have c3 : w1.cell? ⟨w.heap.size, 3, none⟩ = some (.string b) := by rw [hb1.cell (p := ⟨w.heap.size, 3, none⟩) (by simp)]; simp
    go_wp2_with fail
    go_quiet (fail)
    go_wp2_with fail
    go_ret
    exact ⟨rfl, (by repeat' (first | (with_reducible exact Below.refl _ _) | (with_reducible refine Below.drew ?_) | (with_reducible refine bo_drewN _ ?_) | (with_reducible refine bo_alloc ?_ _) | (refine bchain ?_ (by with_reducible assumption)) | (with_reducible refine Below.setCell ?_ ?_ _) | go_size))⟩
  · have hpb : padB k fl = false := by
      cases e : padB k fl
      · rfl
      · simp [padB] at e; exact absurd e hk
    rw [hpb] at hp
    replace hk := hide hk
    by_cases h7 : k = 7
    · subst h7
      have h3 : b.size = 3 := by have := hd_win HH.out; omega
      have hz := zero3 h3
      have hv : bodB 7 fl b = !decide (numV b = 0) := by
        unfold bodB; rw [if_neg hk.out, if_pos rfl]
        by_cases e : b = ⟨#[0, 0, 0]⟩
        · rw [e, beq_self_eq_true, decide_eq_true (show numV (⟨#[0, 0, 0]⟩ : ByteArray) = 0 from rfl)]
        · rw [tl_ne e, decide_eq_false (fun x => e (hz.1 x))]
      rw [hv]
      clear hv hpb hz h3
      go_enter Tryd.func42, Tryd.ntmps42
      go_wp2_with fail
      refine (hp _ p1 p2).mono ?_; rintro e w1 ⟨rfl, hb1⟩
      have c0 : w1.cell? ⟨w.heap.size, 0, none⟩ = some (.int .i64 7) := by rw [hb1.cell (p := ⟨w.heap.size, 0, none⟩) (by simp)]; simp
      have c3 : w1.cell? ⟨w.heap.size, 3, none⟩ = some (.string b) := by rw [hb1.cell (p := ⟨w.heap.size, 3, none⟩) (by simp)]; simp
      go_wp2_with fail
      refine (implNumber b _ hbm).mono ?_; rintro e w2 ⟨rfl, rfl⟩
      go_wp2_with fail
      go_ret
      exact ⟨by refine congrArg (fun b => Ending.returned (Value.bool b)) ?_; show (!(numV b == 0)) = _; congr 1, (by repeat' (first | (with_reducible exact Below.refl _ _) | (with_reducible refine Below.drew ?_) | (with_reducible refine bo_drewN _ ?_) | (with_reducible refine bo_alloc ?_ _) | (refine bchain ?_ (by with_reducible assumption)) | (with_reducible refine Below.setCell ?_ ?_ _) | go_size))⟩
    · have hv : bodB k fl b = true := by unfold bodB; rw [if_neg hk.out, if_neg h7]
      rw [hv]
      go_enter Tryd.func42, Tryd.ntmps42
      go_wp2_with fail
      refine (hp _ p1 p2).mono ?_; rintro e w1 ⟨rfl, hb1⟩
      have c0 : w1.cell? ⟨w.heap.size, 0, none⟩ = some (.int .i64 k) := by rw [hb1.cell (p := ⟨w.heap.size, 0, none⟩) (by simp)]; simp
      go_wp2_with fail
      go_ret
      exact ⟨rfl, (by repeat' (first | (with_reducible exact Below.refl _ _) | (with_reducible refine Below.drew ?_) | (with_reducible refine bo_drewN _ ?_) | (with_reducible refine bo_alloc ?_ _) | (refine bchain ?_ (by with_reducible assumption)) | (with_reducible refine Below.setCell ?_ ?_ _) | go_size))⟩
set_option maxHeartbeats 1000000 in
theorem implFrameOk (k fl st : Int) (b : ByteArray) (w : World) (hb : b.size ≤ maxLen) : Calls Tryd.prog 15 #[.agg #[.int .i64 k, .int .i64 fl, .int .i64 st, .string b]] w fun e w' => e = .returned (.bool (okFr ⟨k, fl, st, b⟩)) ∧ Below w.heap.size w w' := by
  have hbm := hb
  unfold maxLen at hb
  rw [okFr_mk]
  cases hh : hdOk k fl st b.size
  · go_enter Tryd.func15, Tryd.ntmps15
    go_wp2_with fail
    refine (implHead k fl st b.size b _).mono ?_; rw [hh]; rintro e w1 ⟨rfl, hb1⟩
    go_wp2_with fail
    go_ret
    exact ⟨rfl, (by repeat' (first | (with_reducible exact Below.refl _ _) | (with_reducible refine Below.drew ?_) | (with_reducible refine bo_drewN _ ?_) | (with_reducible refine bo_alloc ?_ _) | (refine bchain ?_ (by with_reducible assumption)) | (with_reducible refine Below.setCell ?_ ?_ _) | go_size))⟩
  · have HH := hide hh
    go_enter Tryd.func15, Tryd.ntmps15
    go_wp2_with fail
    refine (implHead k fl st b.size b _).mono ?_; rw [hh]; rintro e w1 ⟨rfl, hb1⟩
    have c0 : w1.cell? ⟨w.heap.size, 0, none⟩ = some (.int .i64 k) := by rw [hb1.cell (p := ⟨w.heap.size, 0, none⟩) (by simp)]; simp
    have c1 : w1.cell? ⟨w.heap.size, 1, none⟩ = some (.int .i64 fl) := by rw [hb1.cell (p := ⟨w.heap.size, 1, none⟩) (by simp)]; simp
    have c2 : w1.cell? ⟨w.heap.size, 2, none⟩ = some (.int .i64 st) := by rw [hb1.cell (p := ⟨w.heap.size, 2, none⟩) (by simp)]; simp
    have c3 : w1.cell? ⟨w.heap.size, 3, none⟩ = some (.string b) := by rw [hb1.cell (p := ⟨w.heap.size, 3, none⟩) (by simp)]; simp
    clear hh
    go_wp2_with fail
    refine (implBody k fl st b _ hbm HH.out).mono ?_; rintro e w2 ⟨rfl, hb2⟩
    go_wp2_with fail
    go_ret
    exact ⟨rfl, (by repeat' (first | (with_reducible exact Below.refl _ _) | (with_reducible refine Below.drew ?_) | (with_reducible refine bo_drewN _ ?_) | (with_reducible refine bo_alloc ?_ _) | (refine bchain ?_ (by with_reducible assumption)) | (with_reducible refine Below.setCell ?_ ?_ _) | go_size))⟩
set_option maxHeartbeats 4000000 in
theorem specHead (k fl st n : Int) (w : World) : Calls Tryd.prog 39 #[.int .i64 k, .int .i64 fl, .int .i64 st, .int .i64 n] w fun e w' => e = .returned (.bool (hdOk k fl st n)) ∧ w' = w := by
  obtain ⟨R, hR⟩ : ∃ R, hdOk k fl st n = R := ⟨_, rfl⟩
  rw [hR]
  have HR := hide hR
  clear hR
  cases h1 : inB fl 0 3
  · go_enter Tryd.func39, Tryd.ntmps39
    go_wp2_with fail
    refine (specIn _ _ _ _).mono ?_; rw [h1]; rintro e w1 ⟨rfl, rfl⟩
    go_wp2_with fail
    go_ret
    exact ⟨by rw [← HR.out]; simp [hdOk, h1], rfl⟩
  obtain ⟨f0, f3⟩ := inB_true h1
  cases h2 : inB st 0 100000
  · go_enter Tryd.func39, Tryd.ntmps39
    go_wp2_with fail
    refine (specIn _ _ _ _).mono ?_; rw [h1]; rintro e w1 ⟨rfl, rfl⟩
    go_wp2_with fail
    refine (specIn _ _ _ _).mono ?_; rw [h2]; rintro e w1 ⟨rfl, rfl⟩
    go_wp2_with fail
    go_ret
    exact ⟨by rw [← HR.out]; simp [hdOk, h2], rfl⟩
  obtain ⟨s0, s1⟩ := inB_true h2
  cases h3 : inB n 0 1000
  · go_enter Tryd.func39, Tryd.ntmps39; go_wp2_with fail; refine (specIn _ _ _ _).mono ?_; rw [h1]; rintro e w1 ⟨rfl, rfl⟩; go_wp2_with fail; refine (specIn _ _ _ _).mono ?_; rw [h2]; rintro e w1 ⟨rfl, rfl⟩; go_wp2_with fail; refine (specIn _ _ _ _).mono ?_; rw [h3]; rintro e w1 ⟨rfl, rfl⟩
    go_wp2_with fail
    go_ret
    exact ⟨by rw [← HR.out]; simp [hdOk, h3], rfl⟩
  obtain ⟨n0, n1⟩ := inB_true h3
  have e0 : hdOk k fl st n = R := HR.out
  simp only [hdOk, h1, h2, h3, Bool.true_eq_false, or_self, if_false] at e0
  have HE := hide e0
  clear e0 HR
  have hk : k = 1 ∨ k = 2 ∨ k = 3 ∨ k = 4 ∨ k = 5 ∨ k = 6 ∨ k = 7 ∨ ¬ (1 ≤ k ∧ k ≤ 7) := by omega
  rcases hk with rfl | rfl | rfl | rfl | rfl | rfl | rfl | hk
  case inr.inr.inr.inr.inr.inr.inr =>
    have q1 : ¬ k = 1 := by omega
    have q2 : ¬ k = 2 := by omega
    have q3 : ¬ k = 3 := by omega
    have q4 : ¬ k = 4 := by omega
    have q5 : ¬ k = 5 := by omega
    have q6 : ¬ k = 6 := by omega
    have q7 : ¬ k = 7 := by omega
    have HF : Hid (R = false) := by show _ = _; rw [← HE.out]; simp [q1, q2, q3, q4, q5, q6, q7]
    clear HE
    go_enter Tryd.func39, Tryd.ntmps39; go_wp2_with fail; refine (specIn _ _ _ _).mono ?_; rw [h1]; rintro e w1 ⟨rfl, rfl⟩; go_wp2_with fail; refine (specIn _ _ _ _).mono ?_; rw [h2]; rintro e w1 ⟨rfl, rfl⟩; go_wp2_with fail; refine (specIn _ _ _ _).mono ?_; rw [h3]; rintro e w1 ⟨rfl, rfl⟩
    go_wp2_with fail
    go_ret
    exact ⟨by rw [HF.out]; rfl, rfl⟩
  all_goals
    go_enter Tryd.func39, Tryd.ntmps39; go_wp2_with fail; refine (specIn _ _ _ _).mono ?_; rw [h1]; rintro e w1 ⟨rfl, rfl⟩; go_wp2_with fail; refine (specIn _ _ _ _).mono ?_; rw [h2]; rintro e w1 ⟨rfl, rfl⟩; go_wp2_with fail; refine (specIn _ _ _ _).mono ?_; rw [h3]; rintro e w1 ⟨rfl, rfl⟩
    go_wp2_with fail
    all_goals go_ret
    all_goals exact ⟨by (refine congrArg (fun b => Ending.returned (Value.bool b)) ?_; rw [← HE.out, Bool.eq_iff_iff]; simp; try omega), rfl⟩
set_option maxHeartbeats 1000000 in
theorem specFrameOk (k fl st : Int) (b : ByteArray) (w : World) (hb : b.size ≤ maxLen) : Calls Tryd.prog 16 #[.agg #[.int .i64 k, .int .i64 fl, .int .i64 st, .string b]] w fun e w' => e = .returned (.bool (okFr ⟨k, fl, st, b⟩)) ∧ Below w.heap.size w w' := by
  unfold maxLen at hb
  rw [okFr_mk]
  cases hh : hdOk k fl st b.size
  · go_enter Tryd.func16, Tryd.ntmps16
    go_wp2_with fail
    refine (specHead k fl st b.size _).mono ?_; rw [hh]; rintro e w1 ⟨rfl, rfl⟩
    go_wp2_with fail
    go_ret
    exact ⟨rfl, (by repeat' (first | (with_reducible exact Below.refl _ _) | (with_reducible refine Below.drew ?_) | (with_reducible refine bo_drewN _ ?_) | (with_reducible refine bo_alloc ?_ _) | (refine bchain ?_ (by with_reducible assumption)) | (with_reducible refine Below.setCell ?_ ?_ _) | go_size))⟩
  · have HH := hide hh
    by_cases hk : k = 1 ∧ 2 ≤ fl
    · obtain ⟨rfl, hf⟩ := hk
      have hpos : 0 < b.size := by have := hd_pad hh rfl hf; omega
      have hv : bodB 1 fl b = decide ((b[0].toNat : Int) ≤ (b.size : Int) - 1) := by
        unfold bodB; rw [if_pos ⟨rfl, hf⟩, fst0_get hpos]
      rw [hv]
      have hby := byte_range b 0 hpos
      clear hv
      go_enter Tryd.func16, Tryd.ntmps16
      go_wp2_with fail
      refine (specHead 1 fl st b.size _).mono ?_; rw [hh]; rintro e w1 ⟨rfl, rfl⟩
      go_wp2_with fail
      go_quiet (fail)
      go_wp2_with fail
      go_ret
      exact ⟨rfl, (by repeat' (first | (with_reducible exact Below.refl _ _) | (with_reducible refine Below.drew ?_) | (with_reducible refine bo_drewN _ ?_) | (with_reducible refine bo_alloc ?_ _) | (refine bchain ?_ (by with_reducible assumption)) | (with_reducible refine Below.setCell ?_ ?_ _) | go_size))⟩
    · have hk2 : k = 1 → ¬ 2 ≤ fl := fun a c => hk ⟨a, c⟩
      by_cases h1 : k = 1
      · subst h1
        have hf := hk2 rfl
        have hv : bodB 1 fl b = true := by unfold bodB; rw [if_neg hk, if_neg (by decide)]
        rw [hv]
        clear hk hk2
        go_enter Tryd.func16, Tryd.ntmps16
        go_wp2_with fail
        refine (specHead 1 fl st b.size _).mono ?_; rw [hh]; rintro e w1 ⟨rfl, rfl⟩
        go_wp2_with fail
        go_ret
        exact ⟨rfl, (by repeat' (first | (with_reducible exact Below.refl _ _) | (with_reducible refine Below.drew ?_) | (with_reducible refine bo_drewN _ ?_) | (with_reducible refine bo_alloc ?_ _) | (refine bchain ?_ (by with_reducible assumption)) | (with_reducible refine Below.setCell ?_ ?_ _) | go_size))⟩
      · by_cases h7 : k = 7
        · subst h7
          have hv : bodB 7 fl b = !(b.toList == [0, 0, 0]) := by unfold bodB; rw [if_neg hk, if_pos rfl, tl000]
          rw [hv]
          clear hk hk2
          go_enter Tryd.func16, Tryd.ntmps16
          go_wp2_with fail
          refine (specHead 7 fl st b.size _).mono ?_; rw [hh]; rintro e w1 ⟨rfl, rfl⟩
          go_wp2_with fail
          go_ret
          exact ⟨rfl, (by repeat' (first | (with_reducible exact Below.refl _ _) | (with_reducible refine Below.drew ?_) | (with_reducible refine bo_drewN _ ?_) | (with_reducible refine bo_alloc ?_ _) | (refine bchain ?_ (by with_reducible assumption)) | (with_reducible refine Below.setCell ?_ ?_ _) | go_size))⟩
        · have hv : bodB k fl b = true := by unfold bodB; rw [if_neg hk, if_neg h7]
          rw [hv]
          clear hk hk2
          go_enter Tryd.func16, Tryd.ntmps16
          go_wp2_with fail
          refine (specHead k fl st b.size _).mono ?_; rw [hh]; rintro e w1 ⟨rfl, rfl⟩
          go_wp2_with fail
          go_ret
          exact ⟨rfl, (by repeat' (first | (with_reducible exact Below.refl _ _) | (with_reducible refine Below.drew ?_) | (with_reducible refine bo_drewN _ ?_) | (with_reducible refine bo_alloc ?_ _) | (refine bchain ?_ (by with_reducible assumption)) | (with_reducible refine Below.setCell ?_ ?_ _) | go_size))⟩
end Go.Proofs.YtelcnojmfkoboaaDoor
