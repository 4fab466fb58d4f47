/- Tunnels in plain words: when one is right, what goes in, out and back, when it is over. -/
import Derived.Test.YthkjjnnmnacgcaaPipeWords
import Derived.Test.YthkjjnnmnacgcaaInB
namespace Go.Proofs.Ythkjjnnmnacgcaa
open Go.RowKit
set_option maxRecDepth 100000
set_option linter.unusedSimpArgs false
set_option linter.unusedVariables false
/-- A Pipe. -/
structure PpD where
  r : Int
  b : ByteArray
  e : Bool
  k : Bool
def zPp : PpD := ⟨0, ⟨#[]⟩, false, false⟩
abbrev pcs (p : PpD) : List Value := [.int .i64 p.r, .string p.b, .bool p.e, .bool p.k]
abbrev pv (p : PpD) : Value := .agg #[.int .i64 p.r, .string p.b, .bool p.e, .bool p.k]
structure TuD where
  up : PpD
  dn : PpD
  went : Int
  came : Int
def zTu : TuD := ⟨zPp, zPp, 0, 0⟩
abbrev tucs (t : TuD) : List Value := [.int .i64 t.up.r, .string t.up.b, .bool t.up.e, .bool t.up.k, .int .i64 t.dn.r, .string t.dn.b, .bool t.dn.e, .bool t.dn.k, .int .i64 t.went, .int .i64 t.came]
abbrev tuv (t : TuD) : Value := .agg #[.int .i64 t.up.r, .string t.up.b, .bool t.up.e, .bool t.up.k, .int .i64 t.dn.r, .string t.dn.b, .bool t.dn.e, .bool t.dn.k, .int .i64 t.went, .int .i64 t.came]
def okPp (p : PpD) : Bool := okB p.r p.b p.k
def okTu (t : TuD) : Bool := okPp t.up && okPp t.dn && inB t.went 0 1000000 && inB t.came 0 1000000
theorem okPp_true {p : PpD} (h : okPp p = true) : 1 ≤ p.r ∧ p.r ≤ 2000 ∧ (p.b.size : Int) ≤ p.r ∧ (p.k = true → p.b.size = 0) := by
  unfold okPp at h
  have h1 : 1 ≤ p.r ∧ p.r ≤ 2000 ∧ (p.b.size : Int) ≤ p.r := by
    unfold okB at h
    simp only [Bool.and_eq_true, decide_eq_true_eq] at h
    exact h.1
  refine ⟨h1.1, h1.2.1, h1.2.2, fun hk => ?_⟩
  rw [okB_rest h1, hk] at h
  simp at h
  rw [ByteArray.toList_eq] at h
  have : p.b.data.toList.length = 0 := by rw [h]; rfl
  simpa using this
theorem okPp_of {p : PpD} (h1 : 1 ≤ p.r) (h2 : p.r ≤ 2000) (h3 : (p.b.size : Int) ≤ p.r) (h4 : p.k = true → p.b.size = 0) : okPp p = true := by
  unfold okPp
  rw [okB_rest ⟨h1, h2, h3⟩]
  cases hk : p.k
  · rfl
  · have : p.b.toList = [] := by rw [ByteArray.toList_eq]; exact List.eq_nil_of_length_eq_zero (by simpa using h4 hk)
    simp [this]
theorem okTu_true {t : TuD} (h : okTu t = true) : okPp t.up = true ∧ okPp t.dn = true ∧ (0 ≤ t.went ∧ t.went ≤ 1000000) ∧ 0 ≤ t.came ∧ t.came ≤ 1000000 := by
  unfold okTu at h
  simp only [Bool.and_eq_true] at h
  obtain ⟨⟨⟨h1, h2⟩, h3⟩, h4⟩ := h
  exact ⟨h1, h2, inB_true h3, inB_true h4⟩
theorem okTu_of {t : TuD} (h1 : okPp t.up = true) (h2 : okPp t.dn = true) (h3 : 0 ≤ t.went ∧ t.went ≤ 1000000) (h4 : 0 ≤ t.came ∧ t.came ≤ 1000000) : okTu t = true := by
  unfold okTu
  rw [h1, h2, inB_of h3.1 h3.2, inB_of h4.1 h4.2]; rfl
def newTu (r : Int) : TuD × Bool := if newB r = true then (⟨⟨r, ⟨#[]⟩, false, false⟩, ⟨r, ⟨#[]⟩, false, false⟩, 0, 0⟩, true) else (zTu, false)
def inTu (t : TuD) (s : ByteArray) (fin : Bool) : TuD × Bool :=
  if okTu t = false then (zTu, false)
  else if t.up.e = true ∨ t.up.k = true ∨ t.up.r - t.up.b.size < s.size then (t, false)
  else (⟨⟨t.up.r, t.up.b ++ s, fin, t.up.k⟩, t.dn, t.went, t.came⟩, true)
/-- How many go out. -/
def outN (t : TuD) (n : Int) : Nat := (max 0 (min (min n (1000000 - t.went)) t.up.b.size)).toNat
def outTu (t : TuD) (n : Int) : TuD × ByteArray :=
  if okTu t = false then (zTu, ⟨#[]⟩)
  else (⟨⟨t.up.r, t.up.b.extract (outN t n) t.up.b.size, t.up.e, t.up.k⟩, t.dn, t.went + outN t n, t.came⟩, t.up.b.extract 0 (outN t n))
/-- How many come back. -/
def bckN (t : TuD) (s : ByteArray) : Nat := if t.dn.e = true ∨ t.dn.k = true then 0 else comes t.dn.r t.dn.b s
def bckTu (t : TuD) (s : ByteArray) (fin : Bool) : TuD × Int :=
  if okTu t = false then (zTu, 0)
  else (⟨t.up, ⟨t.dn.r, t.dn.b ++ s.extract 0 (bckN t s), t.dn.e || (fin && decide (bckN t s = s.size) && !t.dn.k), t.dn.k⟩, t.went, t.came⟩, (bckN t s : Int))
def trnTu (t : TuD) : TuD := if okTu t = false then zTu else ⟨⟨t.up.r, ⟨#[]⟩, t.up.e, true⟩, ⟨t.dn.r, ⟨#[]⟩, t.dn.e, true⟩, t.went, t.came⟩
def dryPp (p : PpD) : Bool := okPp p && (p.e || p.k) && p.b.toList.isEmpty
def ovrTu (t : TuD) : Bool := okTu t && dryPp t.up && dryPp t.dn
end Go.Proofs.Ythkjjnnmnacgcaa
