/- Rows of Frames: read, held against each other, marked, read again; one Frame that came in. (Written ahead of the landing of chapter 7: not yet built in a seat that has these functions.) -/
import Derived.Test.YtbnfdakaloeocaaFrameMath
import Derived.Test.YtbnfdakaloeocaaMade
import Derived.Test.YtbnfdakaloeocaaMarkText
import Derived.Test.YtbnfdakaloeocaaLater
import Derived.Test.YtbnfdakaloeocaaOpenRows

namespace Go.Proofs.Ytbnfdakaloeocaa
open Go.RowKit
set_option maxRecDepth 100000
set_option linter.unusedSimpArgs false
set_option linter.unusedVariables false

def Fr.cs (f : Fr) : List Value := [.int .i64 f.k, .int .i64 f.fl, .int .i64 f.st, .string f.b]
/-- As Go's types have it. -/
def Fr.fine (f : Fr) : Prop := f.b.size ≤ 9223372036854775807
def fr (L : List Fr) : List Value := L.flatMap Fr.cs
theorem frcs_len (s : Fr) : s.cs.length = 4 := rfl
theorem fr_len (L : List Fr) : (fr L).length = L.length * 4 := flat_length Fr.cs 4 frcs_len L
theorem fr_get (L : List Fr) (k : Nat) (h : k < L.length) : (fr L)[k * 4]? = some (.int .i64 L[k].k) ∧ (fr L)[k * 4 + 1]? = some (.int .i64 L[k].fl) ∧ (fr L)[k * 4 + 2]? = some (.int .i64 L[k].st) ∧ (fr L)[k * 4 + 3]? = some (.string L[k].b) :=
  ⟨flat_get Fr.cs 4 frcs_len L k h 0 (by decide), flat_get Fr.cs 4 frcs_len L k h 1 (by decide), flat_get Fr.cs 4 frcs_len L k h 2 (by decide), flat_get Fr.cs 4 frcs_len L k h 3 (by decide)⟩
theorem fr_one (L : List Fr) : ∀ u ∈ fr L, u.oneCell' = true := by
  intro u hu
  obtain ⟨f, _, hf⟩ := List.mem_flatMap.1 hu
  simp only [Fr.cs, List.mem_cons, List.not_mem_nil, or_false] at hf
  rcases hf with rfl | rfl | rfl | rfl <;> rfl
theorem fr_app (A B : List Fr) : fr (A ++ B) = fr A ++ fr B := by simp [fr]

theorem fr_snoc (L : List Fr) (f : Fr) : fr (L ++ [f]) = fr L ++ f.cs := by rw [fr_app]; simp [fr]
/-- The marks of a row of n Frames, from k on. -/
def mkC (k j : Nat) : List Value := [.int .i64 ((k + j * 4 : Nat) : Int), .int .i64 (((k + j * 4 : Nat) : Int) + 1), .int .i64 (((k + j * 4 : Nat) : Int) + 2), .string (mtx (k + j * 4 + 3))]
theorem mkC_len (k j : Nat) : (mkC k j).length = 4 := rfl
def mkFr (k n : Nat) : List Value := (List.range n).flatMap (mkC k)
theorem mkFr_len (k n : Nat) : (mkFr k n).length = n * 4 := by have := flat_length (mkC k) 4 (mkC_len k) (List.range n); simpa [mkFr] using this
theorem mkFr_get (k n j : Nat) (h : j < n) : (mkFr k n)[j * 4]? = some (.int .i64 ((k + j * 4 : Nat) : Int)) ∧ (mkFr k n)[j * 4 + 1]? = some (.int .i64 (((k + j * 4 : Nat) : Int) + 1)) ∧ (mkFr k n)[j * 4 + 2]? = some (.int .i64 (((k + j * 4 : Nat) : Int) + 2)) ∧ (mkFr k n)[j * 4 + 3]? = some (.string (mtx (k + j * 4 + 3))) := by
  have hg := flat_get (mkC k) 4 (mkC_len k) (List.range n) j (by simpa using h)
  have h0 := hg 0 (by decide)
  have h1 := hg 1 (by decide)
  have h2 := hg 2 (by decide)
  have h3 := hg 3 (by decide)
  rw [List.getElem_range] at h0 h1 h2 h3
  exact ⟨h0, h1, h2, h3⟩
end Go.Proofs.Ytbnfdakaloeocaa
