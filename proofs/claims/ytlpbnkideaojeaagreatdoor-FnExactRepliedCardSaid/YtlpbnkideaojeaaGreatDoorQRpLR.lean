/- Lemmas. -/
import Derived.Test.YtlpbnkideaojeaaGreatDoorQRpG15
namespace Go.Proofs.YtlpbnkideaojeaaGreatDoor
open Go.RowKit
set_option maxRecDepth 100000
set_option linter.unusedSimpArgs false
set_option linter.unusedVariables false
def yH (s : ByteArray) (n k : Nat) : ByteArray := if nE s 7 = 128 then (yG (s.extract k (k + n))).1 else s.extract k (k + n)
def mg (s : ByteArray) : ByteArray × Int :=
 if 0 ≤ (dQ s 7).1 ∧ (dQ s 7).1 ≤ (s.size : Int) - (dQ s 7).2 then
  (if aU (yH s (dQ s 7).1.toNat (dQ s 7).2.toNat) = s.extract 0 ((dQ s 7).2.toNat + (dQ s 7).1.toNat) then (yH s (dQ s 7).1.toNat (dQ s 7).2.toNat, (dQ s 7).2 + (dQ s 7).1) else (⟨#[]⟩, 0))
 else (⟨#[]⟩, 0)
theorem XO {s : ByteArray} {n k : Nat} (h : dQ s 7 = ((n : Int), (k : Int))) : mg s = if (n : Int) ≤ (s.size : Int) - k then (if aU (yH s n k) = s.extract 0 (k + n) then (yH s n k, (k : Int) + n) else (⟨#[]⟩, 0)) else (⟨#[]⟩, 0) := by
 unfold mg; rw [h]; simp only [Int.toNat_natCast]
 by_cases e : (n : Int) ≤ (s.size : Int) - k
 ·rw [if_pos ⟨by omega, e⟩, if_pos e]
 ·rw [if_neg (fun q => e q.2), if_neg e]
theorem XI {t : ByteArray} (h : 200 < t.size) : aU t = ⟨#[]⟩ := by simp [aU, h]
theorem H9 {t : ByteArray} (h : t.size ≤ 200) : ∃ (m : Nat) (x : Int) (p : ByteArray), aU t = aY (m : Int) 7 x ++ p ∧ p.size = m ∧ m ≤ 200 ∧ (x = 0 ∨ x = 128) ∧ jl (m : Int) 7 x = true ∧ ((x = 128 ∧ (dR t) = (p, true) ∧ p.size < t.size) ∨ (x = 0 ∧ p = t)) := by
 unfold aU
 rw [if_neg (by omega)]
 by_cases c : (dR t).2 = true ∧ (dR t).1.size < t.size
 ·rw [if_pos c]
  exact ⟨(dR t).1.size, 128, (dR t).1, rfl, rfl, by omega, .inr rfl, wQ (by omega) (by omega) (.inr rfl), .inl ⟨rfl, by rw [← c.1], c.2⟩⟩
 ·rw [if_neg c]
  exact ⟨t.size, 0, t, rfl, rfl, h, .inl rfl, wQ (by omega) (by omega) (.inl rfl), .inr ⟨rfl, rfl⟩⟩
theorem XP {t : ByteArray} (h : t.size ≤ 200) (rest : ByteArray) : ∃ m k : Nat, dQ (aU t ++ rest) 7 = ((m : Int), (k : Int)) ∧ k + m = (aU t).size ∧ 0 < k := by
 obtain ⟨m, x, p, e, hp, hm, hx, ho, _⟩ := H9 h
 refine ⟨m, (aY (m : Int) 7 x).size, ?_, ?_, (mO ho).1⟩
 ·rw [e, nG]; exact D8 ho _
 ·rw [e, iZ, hp]
theorem Hz {t : ByteArray} (h : t.size ≤ 200) : 0 < (aU t).size := by
 obtain ⟨m, k, _, h1, h2⟩ := XP h ⟨#[]⟩; omega
end Go.Proofs.YtlpbnkideaojeaaGreatDoor
