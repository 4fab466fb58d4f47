/- What the laws of tokens draw: tokens, bent or not, and keys and times beside them. -/
import Derived.Test.YtnadephjbglcfaaGreatDoorTokDraw
import Derived.Test.YtnadephjbglcfaaGreatDoorBend2

namespace Go.Proofs.YtnadephjbglcfaaGreatDoor
open Go.RowKit
set_option maxRecDepth 100000
set_option linter.unusedSimpArgs false
set_option linter.unusedVariables false
theorem tok_size (name : ByteArray) (u : Int) (key : ByteArray) : (tokV name u key).size ≤ 40 := by
  unfold tokV
  rw [strOf_size]
  unfold tokL
  split
  · rename_i h
    have h1 := name_size h.1
    have h2 := inB_true h.2.1
    have m := macV_range key (strOf (tokB name u))
    have d1 := decL_short 7 u.toNat (by omega) (by decide)
    have d2 := decL_short 10 (macV key (strOf (tokB name u))).toNat (by omega) (by decide)
    unfold tokB
    simp only [List.length_append, List.length_cons, List.length_nil, bys_len]
    unfold tokB at d2
    omega
  · simp
set_option maxHeartbeats 2000000 in
theorem drawToken14 (g B : Nat) (w : World) (hc : Cur w g B) :
    Calls Tryz.prog 25 #[.pointer (some ⟨g, 0, none⟩)] w fun e w' => ∃ z : ByteArray, z.size ≤ 100 ∧ e = .returned (.string z) ∧ Cur w' g B ∧ Moves g w w' := by
  have hgw := hc.lt
  go_enter Tryz.func25, Tryz.ntmps25
  go_wp2_with fail
  refine (drawName14 g B _ hc).mono ?_; rintro e w1 ⟨nm, hnm, rfl, hc1, hm1⟩
  go_wp2_with fail
  refine (below1 g B 60 _ hc1 (by omega)).mono ?_; rintro e w2 ⟨u, u0, u1, _, rfl, hc2, hm2⟩
  have hm12 := hm1.trans hm2
  clear hm1 hm2 u1
  go_wp2_with fail
  obtain ⟨VA, hVA⟩ : ∃ V, w2.alloc (.cells #[.string ⟨#[107, 49]⟩, .string ⟨#[107, 50]⟩] 9) = V := ⟨_, rfl⟩
  have RA : RowIs VA w2.heap.size 9 [.string ⟨#[107, 49]⟩, .string ⟨#[107, 50]⟩] := by rw [← hVA]; exact rowIs_new w2 _ _
  have hbA : Below w2.heap.size w2 VA := by rw [← hVA]; exact (Below.refl _ _).alloc (Nat.le_refl _) _
  rw [hVA]
  clear hVA
  have hgA := hc2.lt
  refine (below1 g B 2 _ (hc2.below hbA) (by omega)).mono ?_; rintro e w3 ⟨q, q0, q1, _, rfl, hcq, hmq⟩
  have q6 := q1 (by omega)
  replace RA := RA.moves hmq (by omega)
  obtain ⟨qn, rfl⟩ : ∃ n : Nat, q = n := ⟨q.toNat, by omega⟩
  obtain ⟨key, hk0, hkz⟩ : ∃ z : ByteArray, z.size ≤ 40 ∧ w3.cell? ⟨w2.heap.size, qn, none⟩ = some (.string z) := by
    have : qn = 0 ∨ qn = 1 := by omega
    rcases this with rfl | rfl <;> exact ⟨_, by decide, RA.cell rfl⟩
  have hlA := RA.lt
  have hmA := (hm12.trans (Moves.of_below hbA)).trans hmq
  clear q1 RA hbA hmq
  have hts := tok_size nm u key
  have htk := fun w => specToken nm u key w (by unfold maxLen; omega) (by unfold maxLen; omega)
  obtain ⟨t, ht⟩ : ∃ t, tokV nm u key = t := ⟨_, rfl⟩
  rw [ht] at htk hts
  clear ht
  go_wp2_with fail
  refine (htk _).mono ?_; rintro e w4 ⟨rfl, hb4⟩
  have hc4 := hcq.below hb4
  have hm4 := hmA.trans (Moves.of_below hb4)
  clear hkz hlA
  go_wp2_with fail
  refine (once1 g B 4 _ hc4 (by omega)).mono ?_; rintro e w5 ⟨b, rfl, hc5, hm5⟩
  cases b
  · go_wp2_with fail
    go_ret
    exact ⟨t, by omega, rfl, hc5, hm4.trans hm5⟩
  · go_wp2_with fail
    refine (bend1 g B t _ _ hc5 (by omega) (by decide) (by decide)).mono ?_; rintro e w6 ⟨t2, ht2, rfl, hc6, hm6⟩
    go_wp2_with fail
    go_ret
    exact ⟨t2, by omega, rfl, hc6, (hm4.trans hm5).trans hm6⟩
theorem drawReadToken (a : Option Addr) (len cap : Nat) (w : World) (hl : len ≤ 4096) (hcode : CodeAt w a len w.heap.size) :
    Calls Tryz.prog 7 #[.slice a len cap] w fun e w' => ∃ s : ByteArray, e = .returned (.string s) ∧ s.size ≤ 100 ∧ Below w.heap.size w w' := by
  go_enter Tryz.func7, Tryz.ntmps7
  go_wp2_with fail
  refine (new1 a len cap _ hl hcode).mono ?_; rintro x w1 ⟨g, rfl, hg, hc1, hb1⟩
  go_wp2_with fail
  refine (drawToken14 g _ _ hc1).mono ?_; rintro x w2 ⟨z, hz, rfl, hc2, hm2⟩
  go_wp2_with fail
  go_ret
  exact ⟨z, rfl, hz, hb1.trans (hm2.below (by omega) hb1.size)⟩
set_option maxHeartbeats 1000000 in
theorem drawSigned (a : Option Addr) (len cap : Nat) (w : World) (hl : len ≤ 4096) (hcode : CodeAt w a len w.heap.size) :
    Calls Tryz.prog 9 #[.slice a len cap] w fun e w' => ∃ (s key : ByteArray) (now : Int), e = .returned (.tuple #[.string s, .string key, .int .i64 now]) ∧ s.size ≤ 100 ∧ key.size ≤ 40 ∧ -2 ≤ now ∧ now ≤ 60 ∧ Below w.heap.size w w' := by
  go_enter Tryz.func9, Tryz.ntmps9
  go_wp2_with fail
  refine (new1 a len cap _ hl hcode).mono ?_; rintro x w1 ⟨g, rfl, hg, hc1, hb1⟩
  go_wp2_with fail
  refine (drawToken14 g _ _ hc1).mono ?_; rintro x w2 ⟨s, hs, rfl, hc2, hm2⟩
  have hgA := hc2.lt
  go_wp2_with fail
  obtain ⟨VA, hVA⟩ : ∃ V, w2.alloc (.cells #[.string ⟨#[107, 49]⟩, .string ⟨#[107, 50]⟩] 9) = V := ⟨_, rfl⟩
  have RA : RowIs VA w2.heap.size 9 [.string ⟨#[107, 49]⟩, .string ⟨#[107, 50]⟩] := by rw [← hVA]; exact rowIs_new w2 _ _
  have hbA : Below w2.heap.size w2 VA := by rw [← hVA]; exact (Below.refl _ _).alloc (Nat.le_refl _) _
  rw [hVA]
  clear hVA
  refine (below1 g _ 2 _ (hc2.below hbA) (by omega)).mono ?_; rintro e w3 ⟨q, q0, q1, _, rfl, hcq, hmq⟩
  have q6 := q1 (by omega)
  replace RA := RA.moves hmq (by omega)
  obtain ⟨qn, rfl⟩ : ∃ n : Nat, q = n := ⟨q.toNat, by omega⟩
  obtain ⟨key, hk0, hkz⟩ : ∃ z : ByteArray, z.size ≤ 40 ∧ w3.cell? ⟨w2.heap.size, qn, none⟩ = some (.string z) := by
    have : qn = 0 ∨ qn = 1 := by omega
    rcases this with rfl | rfl <;> exact ⟨_, by decide, RA.cell rfl⟩
  have hlA := RA.lt
  have hmA := (hm2.trans (Moves.of_below hbA)).trans hmq
  clear q1 RA hbA hmq hm2
  go_wp2_with fail
  refine (from1 g _ (-2) 60 _ hcq (by omega) (by omega) (by omega)).mono ?_; rintro e w4 ⟨z, z0, z1, rfl, hc4, hm4⟩
  go_wp2_with fail
  go_ret3
  exact ⟨s, key, z, rfl, hs, hk0, z0, z1, hb1.trans ((hmA.trans hm4).below (by omega) hb1.size)⟩
end Go.Proofs.YtnadephjbglcfaaGreatDoor
