/- Lemmas. -/
import Derived.Test.YtlpbnkideaojeaaGreatDoorQRpLR
namespace Go.Proofs.YtlpbnkideaojeaaGreatDoor
open Go.RowKit
set_option maxRecDepth 100000
set_option linter.unusedSimpArgs false
set_option linter.unusedVariables false
theorem wP (t : ByteArray) : (aU t).size ≤ 206 := by
 by_cases h : 200 < t.size
 ·rw [XI h]; exact Nat.zero_le _
 ·obtain ⟨m, x, p, e, hp, hm, hx, ho, _⟩ := H9 (t := t) (by omega)
  rw [e, iZ, hp]
  have := (mO ho).2.1
  omega
theorem XJ {s : ByteArray} (h : (lu s).2 = true) : yG (lu s).1 = (s, true) ∧ (lu s).1.size = (5 * s.size + 7) / 8 := by
 unfold lu at h ⊢
 split at h
 ·rename_i q
  rw [if_pos q]
  refine ⟨?_, Ea h⟩
  have hz := Ea h
  unfold dR at h hz ⊢
  split at h
  ·rename_i ho
   rw [if_pos ho] at hz ⊢
   simp only at hz ⊢
   obtain ⟨c, u, h1, h2⟩ := XK (NS ho)
   unfold yG
   rw [if_pos (by omega), h1]
   simp only
   rw [if_pos h2, XL ho]
  ·cases h
 ·cases h
theorem XM (a b : ByteArray) (x : Int) (h : 0 < a.size) : nE (a ++ b) x = nE a x := by
 rw [Ia, Ia, kZ]
 cases e : cB a with
 | nil => have := mJ a; rw [e] at this; simp at this; omega
 | cons y ys => rfl
theorem Hy {s : ByteArray} (t : ByteArray) (h : s.size ≤ 200) : mg (aU s ++ t) = (s, ((aU s).size : Int)) := by
 obtain ⟨m, x, p, e, hp, hm, hx, ho, hcase⟩ := H9 h
 have hrd : dQ (aU s ++ t) 7 = ((m : Int), ((aY (m : Int) 7 x).size : Int)) := by rw [e, nG]; exact D8 ho _
 have hk := (mO ho).1
 have hsz : (aU s).size = (aY (m : Int) 7 x).size + m := by rw [e, iZ, hp]
 have hhi : nE (aU s ++ t) 7 = x := by
  rw [e, nG, XM _ _ _ hk]; exact Hu ho
 have hex : (aU s ++ t).extract (aY (m : Int) 7 x).size ((aY (m : Int) 7 x).size + m) = p := by
  rw [e, ← hp]; exact Na _ _ _
 have htx : yH (aU s ++ t) m (aY (m : Int) 7 x).size = s := by
  unfold yH
  rw [hhi, hex]
  rcases hcase with ⟨rfl, hl, hlt⟩ | ⟨rfl, hl⟩
  ·rw [if_pos rfl]
   have hpk : lu s = (p, true) := by rw [← hl]; simp [lu, h]
   have := (XJ (s := s) (by rw [hpk])).1
   rw [hpk] at this
   rw [this]
  ·rw [if_neg (by decide), hl]
 rw [XO hrd, htx, if_pos (by rw [iZ]; omega), if_pos]
 ·rw [hsz]; simp
 ·rw [← hsz]; exact (VI _ _).symm
end Go.Proofs.YtlpbnkideaojeaaGreatDoor
