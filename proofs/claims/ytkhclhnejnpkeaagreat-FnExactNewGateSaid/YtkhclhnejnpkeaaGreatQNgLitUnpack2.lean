/- Unpacked of the model: it reads, and holds what it read against its own packing. -/
import Derived.Test.YtkhclhnejnpkeaaGreatQNgLitUnpack
import Derived.Handy
import Derived.Test.YtkhclhnejnpkeaaGreatQNgG3
namespace Go.Proofs.YtkhclhnejnpkeaaGreat
open Go.RowKit
set_option maxRecDepth 100000
set_option linter.unusedSimpArgs false
set_option linter.unusedVariables false

/-- What ends well is what its signs are packed as. -/
theorem raw_iff {s : ByteArray} {r : List Int × Nat × Int} (h : rawV s = some r) : okUB r = true ↔ packF r.1 0 0 = bys s := by
  rw [okUB_iff]
  have := raw_pack _ _ _ _ _ h (by omega) (by omega) (by simp [tw]) (bys_range s) 0 (by omega) (by simp [hidden, tw])
  simpa [hidden, ahead] using this
/-- What Unpacked answers, held against packing. -/
theorem unV_pack (s : ByteArray) : unV s = match rawV s with
    | some r => if r.1.length ≤ 200 ∧ packF r.1 0 0 = bys s then (strOf (r.1.map sch), true) else (⟨#[]⟩, false)
    | none => (⟨#[]⟩, false) := by
  unfold unV
  cases hr : rawV s with
  | none => simp
  | some r =>
    simp only
    by_cases hp : packF r.1 0 0 = bys s
    · have hok : okUB r = true := (raw_iff hr).2 hp
      have hlen : s.size = (5 * r.1.length + 7) / 8 := by
        rw [← bys_len, ← hp, packF_len _ _ _ (by omega)]; omega
      by_cases h125 : s.size ≤ 125
      · rw [if_pos h125, if_pos hok, if_pos ⟨by omega, hp⟩]
      · rw [if_neg h125, if_neg (by omega)]
    · have hok : okUB r = false := by
        cases e : okUB r
        · rfl
        · exact absurd ((raw_iff hr).1 e) hp
      simp [hok, hp]

/-- What the model holds at the head of its outer round: it goes on, or it has come to the end. -/
def UnAt (s : ByteArray) (k c : Nat) (z : Int) (pre : List Int) : Prop :=
  (k < s.size ∧ c < 5 ∧ 0 ≤ z ∧ z < tw c ∧ rawV s = (rawF (enF c ((bys s).drop k)) c z ((bys s).drop k)).map (fun r => (pre ++ r.1, r.2))) ∨ (k = s.size ∧ rawV s = some (pre, c, z))
theorem UnAt.end {s : ByteArray} {k c : Nat} {z : Int} {pre : List Int} (h : UnAt s k c z pre) (hk : k = s.size) : rawV s = some (pre, c, z) := by
  rcases h with ⟨h, _⟩ | ⟨_, h⟩
  · omega
  · exact h
theorem UnAt.long {s : ByteArray} {k c : Nat} {z : Int} {pre : List Int} (h : UnAt s k c z pre) (hl : 200 < pre.length) : unV s = (⟨#[]⟩, false) := by
  rw [unV_pack]
  rcases h with ⟨_, _, _, _, h⟩ | ⟨_, h⟩
  · rw [h]
    cases rawF (enF c ((bys s).drop k)) c z ((bys s).drop k) with
    | none => rfl
    | some r => simp only [Option.map_some]; rw [if_neg (by simp; omega)]
  · rw [h]; simp only; rw [if_neg (by omega)]
end Go.Proofs.YtkhclhnejnpkeaaGreat
