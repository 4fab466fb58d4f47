/- Chapter 19, the program: framesOf keeps those Frames that are of one Kind and Stream. -/
import Derived.Test.YtbnfdakaloeocaaDoorAudMath
import Derived.Test.YtbnfdakaloeocaaDoorFrReads
import Derived.Test.YtbnfdakaloeocaaDoorRowNew
import Derived.Deep.RegionHeld3
import Derived.Deep.LoopGhost
import Derived.WalkMore
import Derived.Deep.Cut
import Derived.Deep.DeepCutAuto


namespace Go.Proofs.YtbnfdakaloeocaaDoor
open Go.RowKit
set_option maxRecDepth 100000
set_option linter.unusedSimpArgs false
set_option linter.unusedVariables false
def keepF (k id : Int) (L : List Fr) : List Fr := L.filter fun f => isF k id f
theorem keepF_yes {k id : Int} {L : List Fr} {i : Nat} (hk : i < L.length) (h : isF k id L[i] = true) : keepF k id (L.take (i + 1)) = keepF k id (L.take i) ++ [L[i]] := by
  unfold keepF
  rw [List.take_add_one, List.filter_append, List.getElem?_eq_getElem hk]
  simp only [Option.toList]
  rw [List.filter_cons_of_pos (p := fun f => isF k id f) h]; rfl
theorem keepF_no {k id : Int} {L : List Fr} {i : Nat} (hk : i < L.length) (h : isF k id L[i] = false) : keepF k id (L.take (i + 1)) = keepF k id (L.take i) := by
  unfold keepF
  rw [List.take_add_one, List.filter_append, List.getElem?_eq_getElem hk]
  simp only [Option.toList]
  rw [List.filter_cons_of_neg (p := fun f => isF k id f) (by rw [h]; simp)]; simp
theorem keepF_len (k id : Int) (L : List Fr) : (keepF k id L).length ≤ L.length := List.length_filter_le _ _
theorem keepF_is {k id : Int} {L : List Fr} {f : Fr} (h : f ∈ keepF k id L) : isF k id f = true := (List.mem_filter.1 h).2
theorem keepF_mem {k id : Int} {L : List Fr} {f : Fr} (h : f ∈ keepF k id L) : f ∈ L := (List.mem_filter.1 h).1
theorem sumF_keep (k id : Int) (g : Fr → Int) (L : List Fr) : sumF k id g (keepF k id L) = sumF k id g L := by
  induction L with
  | nil => rfl
  | cons f L ih =>
    unfold keepF at ih ⊢
    cases h : isF k id f
    · rw [List.filter_cons_of_neg (p := fun f => isF k id f) (by rw [h]; simp), ih]
      simp [sumF, h]
    · rw [List.filter_cons_of_pos (p := fun f => isF k id f) h]
      simp only [sumF, h, ih]
theorem sumF_keep_take {k id : Int} (g : Fr → Int) {L : List Fr} (i : Nat) (h : i < (keepF k id L).length) : sumF k id g ((keepF k id L).take (i + 1)) = sumF k id g ((keepF k id L).take i) + g (keepF k id L)[i] := by
  rw [sumF_take _ _ _ _ _ h, if_pos (keepF_is (List.getElem_mem h))]
set_option maxHeartbeats 4000000 in
theorem implWantF (k id : Int) (f : Fr) (g1 g2 : Nat) (w : World) (h1 : w.cell? ⟨g1, 0, none⟩ = some (.int .i64 k)) (h2 : w.cell? ⟨g2, 0, none⟩ = some (.int .i64 id)) (l1 : g1 < w.heap.size) (l2 : g2 < w.heap.size) :
    Calls Tryd.prog 17 #[.agg #[.int .i64 f.k, .int .i64 f.fl, .int .i64 f.st, .string f.b], .pointer (some ⟨g1, 0, none⟩), .pointer (some ⟨g2, 0, none⟩)] w fun x w' => x = .returned (.bool (isF k id f)) ∧ Below w.heap.size w w' := by
  obtain ⟨R, hR⟩ : ∃ R, isF k id f = R := ⟨_, rfl⟩
  rw [hR]
  have HR : Hid (R = isF k id f) := hR.symm
  clear hR
  have hX : Below w.heap.size w (w.alloc (.cells #[.int .i64 f.k, .int .i64 f.fl, .int .i64 f.st, .string f.b] 28)) := (Below.refl _ _).alloc (Nat.le_refl _) _
  have RX := rowIs_new w 28 [.int .i64 f.k, .int .i64 f.fl, .int .i64 f.st, .string f.b]
  have HB := hide hX
  have d1 := (hX.cell (p := ⟨g1, 0, none⟩) l1).trans h1
  have d2 := (hX.cell (p := ⟨g2, 0, none⟩) l2).trans h2
  clear hX h1 h2
  go_enter Tryd.func17, Tryd.ntmps17
  go_upto_region 1 with fail
  generalize w.alloc (.cells #[.int .i64 f.k, .int .i64 f.fl, .int .i64 f.st, .string f.b] 28) = W1 at *
  have c0 := RX.cell (j := 0) rfl
  have c2 := RX.cell (j := 2) rfl
  have hl := RX.lt
  clear RX
  obtain ⟨kk, hkk⟩ : ∃ x, f.k = x := ⟨_, rfl⟩
  obtain ⟨ss, hss⟩ : ∃ x, f.st = x := ⟨_, rfl⟩
  unfold isF at HR
  rw [hkk, hss] at HR
  rw [hkk] at c0
  rw [hss] at c2
  clear hkk hss
  by_cases e1 : kk = k
  · subst e1
    by_cases e2 : ss = id
    · subst e2
      go_wp2_with fail
      go_ret
      exact ⟨by rw [HR.out]; simp, HB.out⟩
    · have e2' : (ss == id) = false := by simpa using e2
      go_wp2_with fail
      go_ret
      exact ⟨by rw [HR.out]; simp [e2], HB.out⟩
  · have e1' : (kk == k) = false := by simpa using e1
    go_wp2_with fail
    go_ret
    exact ⟨by rw [HR.out]; simp [e1], HB.out⟩
end Go.Proofs.YtbnfdakaloeocaaDoor
