/- Several small texts of one level, one behind the other. -/
import Derived.Test.YtllaeakeaabiaaaQImplTOk
import Derived.Test.YtllaeakeaabiaaaQG7
import Derived.Laws.StructEq
import Derived.Deep.Cut
/- RowAt of the program and of the model, in plain words: row n of a right Table. -/
namespace Go.Proofs.Ytllaeakeaabiaaa
open Go.RowKit
set_option maxRecDepth 100000
set_option linter.unusedSimpArgs false
set_option linter.unusedVariables false
/-- What RowAt answers of a Table of this Room and these Rows. -/
def rowAtD (room : Int) (L : List Fd) (n : Int) : Fd × Bool := if okT room L then (if inB n 1 L.length then (L.getD (n.toNat - 1) ⟨⟨#[]⟩, ⟨#[]⟩⟩, true) else (⟨⟨#[]⟩, ⟨#[]⟩⟩, false)) else (⟨⟨#[]⟩, ⟨#[]⟩⟩, false)


end Go.Proofs.Ytllaeakeaabiaaa
/- Lookup of the program and of the model, in plain words. -/
namespace Go.Proofs.Ytllaeakeaabiaaa
open Go.RowKit
set_option maxRecDepth 100000
set_option linter.unusedSimpArgs false
set_option linter.unusedVariables false
/-- Is a row alike? Has it this Name? -/
def alike (f r : Fd) : Bool := (r.n.toList == f.n.toList) && (r.v.toList == f.v.toList)
def named (f r : Fd) : Bool := r.n.toList == f.n.toList
/-- The number of the first row of which p speaks; 0: none. -/
def numOf (p : Fd → Bool) : List Fd → Nat
  | [] => 0
  | r :: L => if p r then 1 else (if numOf p L = 0 then 0 else numOf p L + 1)
def lookL (L : List Fd) (f : Fd) : Int × Bool := if numOf (alike f) L = 0 then ((numOf (named f) L : Int), false) else ((numOf (alike f) L : Int), true)
def lookD (room : Int) (L : List Fd) (f : Fd) : Int × Bool := if okT room L then lookL L f else (0, false)

theorem numOf_app (p : Fd → Bool) (A B : List Fd) : numOf p (A ++ B) = if numOf p A = 0 then (if numOf p B = 0 then 0 else A.length + numOf p B) else numOf p A := by
  induction A with
  | nil => simp [numOf]
  | cons r A ih =>
    simp only [List.cons_append, numOf, ih]
    by_cases h : p r
    · simp [h]
    · simp only [h, if_false, Bool.false_eq_true]
      by_cases h2 : numOf p A = 0
      · simp only [h2, if_true]
        by_cases h3 : numOf p B = 0
        · simp [h3]
        · simp only [h3, if_false]; rw [if_neg (by omega)]; simp; omega
      · simp [h2]
theorem numOf_one (p : Fd → Bool) (L : List Fd) (k : Nat) (hk : k < L.length) : numOf p (L.take (k + 1)) = if numOf p (L.take k) = 0 then (if p L[k] then k + 1 else 0) else numOf p (L.take k) := by
  rw [List.take_succ_eq_append_getElem hk, numOf_app]
  have h1 : (L.take k).length = k := by rw [List.length_take]; omega
  simp only [h1, numOf]
  by_cases h : p L[k] <;> simp [h]
theorem numOf_cut (p : Fd → Bool) (L : List Fd) (k : Nat) (hk : k < L.length) (h0 : numOf p (L.take k) = 0) (h1 : p L[k] = true) : numOf p L = k + 1 := by
  have h := numOf_one p L k hk
  rw [if_pos h0, if_pos h1] at h
  conv => lhs; rw [← List.take_append_drop (k + 1) L]
  rw [numOf_app, h]; simp
theorem numOf_no (p : Fd → Bool) (L : List Fd) (k : Nat) (hk : k < L.length) (h0 : numOf p (L.take k) = 0) (h1 : p L[k] = false) : numOf p (L.take (k + 1)) = 0 := by
  rw [numOf_one p L k hk, if_pos h0, h1]; rfl
theorem numOf_le (p : Fd → Bool) (L : List Fd) : numOf p L ≤ L.length := by
  induction L with
  | nil => simp [numOf]
  | cons r L ih => simp only [numOf, List.length_cons]; split; omega; split <;> omega

end Go.Proofs.Ytllaeakeaabiaaa
/- The program's Noted and Resized. -/
namespace Go.Proofs.Ytllaeakeaabiaaa
open Go.RowKit
set_option maxRecDepth 100000
set_option linter.unusedSimpArgs false
set_option linter.unusedVariables false

end Go.Proofs.Ytllaeakeaabiaaa
