/- Lemmas. -/
import Derived.Test.YtlpbnkideaojeaaGreatDoorQRpLitUnpack
namespace Go.Proofs.YtlpbnkideaojeaaGreatDoor
open Go.RowKit
set_option maxRecDepth 100000
set_option linter.unusedSimpArgs false
set_option linter.unusedVariables false
theorem X0 {l : List Int} (h : ∀ x ∈ l, 0 ≤ x ∧ x ≤ 30) : cB (strOf (l.map oV)) = l.map oV := uF (X4 h)
theorem XL {s : ByteArray} (h : yJ s = true) : strOf ((dX s).map oV) = s := by
 refine qC ?_
 rw [X0 (NS h)]
 unfold dX
 rw [List.map_map]
 refine (List.map_congr_left fun x hx => ?_).trans (List.map_id _)
 exact X6 (by simpa using List.all_eq_true.1 h (gP x) (List.mem_map_of_mem hx))
theorem NT {s : ByteArray} {r : List Int × Nat × Int} (h : sD s = some r) : uJ r = true ↔ cK r.1 0 0 = cB s := by
 rw [NV]
 have := X7 _ _ _ _ _ h (by omega) (by omega) (by simp [tw]) (GU s) 0 (by omega) (by simp [hidden, tw])
 simpa [hidden, ahead] using this
theorem X8 : ∀ (k c : Nat) (u : Int) (bs : List Int) (r : List Int × Nat × Int), gQ k c u bs = some r → ∀ j, k ≤ j → gQ j c u bs = some r := by
 intro k
 induction k with
 | zero => intro c u bs r h; simp [gQ] at h
 | succ k ih =>
  intro c u bs r h j hj
  obtain ⟨j, rfl⟩ : ∃ j', j = j' + 1 := ⟨j - 1, by omega⟩
  by_cases h5 : c < 5
  ·cases bs with
   | nil => rw [Ay h5] at h ⊢; exact h
   | cons b bs => rw [sF h5] at h ⊢; exact ih _ _ _ _ h _ (by omega)
  ·by_cases hs : 31 ≤ u / tw (c - 5)
   ·rw [Az h5 hs] at h ⊢; exact h
   ·rw [AA h5 hs] at h ⊢
    cases hr : gQ k (c - 5) (u % tw (c - 5)) bs with
    | none => rw [hr] at h; cases h
    | some r' => rw [hr] at h; rw [ih _ _ _ _ hr _ (by omega)]; exact h
theorem XK {l : List Int} (h : ∀ x ∈ l, 0 ≤ x ∧ x ≤ 30) : ∃ c u, sD (strOf (cK l 0 0)) = some (l, c, u) ∧ uJ (l, c, u) = true := by
 obtain ⟨c, u, k, hr, ho⟩ := (X9 l 0 0 (by omega) (by omega) (by simp [tw]) h).1 rfl
 refine ⟨c, u, ?_, (NV _).2 ho⟩
 unfold sD
 rw [uF (Ya l 0 0 (by omega) (by omega) (by simp [tw]) h)]
 have h1 := X8 _ _ _ _ _ hr (max k (nY 0 (cK l 0 0))) (by omega)
 rw [← h1]
 exact Yb _ _ _ _ _ (Nat.le_refl _) (by omega)
theorem Yc (s : ByteArray) : yG s = match sD s with
  | some r => if r.1.length ≤ 200 ∧ cK r.1 0 0 = cB s then (strOf (r.1.map oV), true) else (⟨#[]⟩, false)
  | none => (⟨#[]⟩, false) := by
 unfold yG
 cases hr : sD s with
 | none => simp
 | some r =>
  simp only
  by_cases hp : cK r.1 0 0 = cB s
  ·have hok : uJ r = true := (NT hr).2 hp
   have hlen : s.size = (5 * r.1.length + 7) / 8 := by
    rw [← mJ, ← hp, Eb _ _ _ (by omega)]; omega
   by_cases NW : s.size ≤ 125
   ·rw [if_pos NW, if_pos hok, if_pos ⟨by omega, hp⟩]
   ·rw [if_neg NW, if_neg (by omega)]
  ·have hok : uJ r = false := by
    cases e : uJ r
    ·rfl
    ·exact absurd ((NT hr).1 e) hp
   simp [hok, hp]
def Ec (s : ByteArray) (k c : Nat) (z : Int) (pre : List Int) : Prop :=
 (k < s.size ∧ c < 5 ∧ 0 ≤ z ∧ z < tw c ∧ sD s = (gQ (nY c ((cB s).drop k)) c z ((cB s).drop k)).map (fun r => (pre ++ r.1, r.2))) ∨ (k = s.size ∧ sD s = some (pre, c, z))
theorem Ec.end {s : ByteArray} {k c : Nat} {z : Int} {pre : List Int} (h : Ec s k c z pre) (hk : k = s.size) : sD s = some (pre, c, z) := by
 rcases h with ⟨h, _⟩ | ⟨_, h⟩
 ·omega
 ·exact h
theorem Ec.long {s : ByteArray} {k c : Nat} {z : Int} {pre : List Int} (h : Ec s k c z pre) (hl : 200 < pre.length) : yG s = (⟨#[]⟩, false) := by
 rw [Yc]
 rcases h with ⟨_, _, _, _, h⟩ | ⟨_, h⟩
 ·rw [h]
  cases gQ (nY c ((cB s).drop k)) c z ((cB s).drop k) with
  | none => rfl
  | some r => simp only [Option.map_some]; rw [if_neg (by simp; omega)]
 ·rw [h]; simp only; rw [if_neg (by omega)]
end Go.Proofs.YtlpbnkideaojeaaGreatDoor
