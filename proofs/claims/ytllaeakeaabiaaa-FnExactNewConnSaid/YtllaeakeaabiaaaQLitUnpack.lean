/- Unpacked: what it answers, in plain words, and the program's walk by labels. -/
import Derived.Test.YtllaeakeaabiaaaQLitPack2
import Derived.Test.YtllaeakeaabiaaaQG1
import Derived.Handy
namespace Go.Proofs.Ytllaeakeaabiaaa
open Go.RowKit
set_option maxRecDepth 100000
set_option linter.unusedSimpArgs false
set_option linter.unusedVariables false

def okUB (r : List Int × Nat × Int) : Bool := decide (r.2.1 < 8 ∧ r.2.2 = tw r.2.1 - 1)
theorem okUB_iff (r : List Int × Nat × Int) : okUB r = true ↔ okEnd r := by simp [okUB, okEnd]
/-- How a text of bytes is read. -/
def rawV (s : ByteArray) : Option (List Int × Nat × Int) := rawF (enF 0 (bys s)) 0 0 (bys s)
/-- What Unpacked answers. -/
def unV (s : ByteArray) : ByteArray × Bool := if s.size ≤ 125 then (match rawV s with
  | some r => if okUB r = true then (strOf (r.1.map sch), true) else (⟨#[]⟩, false)
  | none => (⟨#[]⟩, false)) else (⟨#[]⟩, false)

/-- The frame at a label: what is made, held, how many bits, and the place. -/
def FrU (s : ByteArray) (b : Value) (z c k : Int) (a : Act) : Prop := ∃ (u2 u3 u8 u9 u10 u11 u12 u13 u14 u15 u16 u17 u18 u19 u20 u21 u22 u23 u24 u25 u26 u27 u28 u29 u30 u31 u32 u33 u34 u35 u36 u37 u38 u39 u40 u41 u42 u43 u44 u45 u46 u47 u48 u49 u50 u51 u52 u53 u54 u55 u56 u57 u58 u59 u60 u61 : Value), a = { tmps := #[.string s, undef, u2, u3, b, .int .i64 z, .int .i64 c, .int .i64 k, u8, u9, u10, u11, u12, u13, u14, u15, u16, u17, u18, u19, u20, u21, u22, u23, u24, u25, u26, u27, u28, u29, u30, u31, u32, u33, u34, u35, u36, u37, u38, u39, u40, u41, u42, u43, u44, u45, u46, u47, u48, u49, u50, u51, u52, u53, u54, u55, u56, u57, u58, u59, u60, u61], defers := [] }
/-- A row of signs. -/
def SgRow (w0 : World) (b : Value) (pre : List Int) (w : World) : Prop := w.ownsRow w0.heap.size 5 1 b pre.length ((pre.map sch).map (Value.int .u8)) ∧ Hid (∀ x ∈ pre, 0 ≤ x ∧ x ≤ 30) ∧ Below w0.heap.size w0 w
def J1 (s : ByteArray) (w0 : World) (lim : Nat) (a : Act) (w : World) : Prop := ∃ (b : Value) (z : Int) (c k : Nat) (pre : List Int), FrU s b z c k a ∧ c ≤ lim ∧ k ≤ s.size ∧ 0 ≤ z ∧ z < tw c ∧ 5 * pre.length + c = 8 * k ∧
  rawV s = (rawF (enF c ((bys s).drop k)) c z ((bys s).drop k)).map (fun r => (pre ++ r.1, r.2)) ∧ SgRow w0 b pre w
def J2 (s : ByteArray) (w0 : World) (a : Act) (w : World) : Prop := ∃ (b : Value) (z : Int) (c k : Nat) (pre : List Int), FrU s b z c k a ∧ c ≤ 12 ∧ k ≤ s.size ∧ 0 ≤ z ∧ z < tw c ∧ 5 * pre.length + c = 8 * k ∧
  rawV s = (if k = s.size then some (pre, c, z) else none) ∧ SgRow w0 b pre w
def mu (s : ByteArray) (d : Nat) (a : Act) (_ : World) : Nat := 2 * (9 * (s.size - (intOf (a.tmps.getD 7 undef)).toNat) + (intOf (a.tmps.getD 6 undef)).toNat + 1) + d

theorem jumps_ret {J : Nat → Act → World → Prop} {Q : Exit → Act → World → Prop} {a : Act} {w : World} : jumps J Q .ret a w = Q .ret a w := rfl
theorem bys_short {s : ByteArray} {k : Nat} (h : k < s.size) : (bys s).drop k ≠ [] := by rw [bys_drop s k h]; simp
theorem en_drop {s : ByteArray} {k : Nat} (c : Nat) : enF c ((bys s).drop k) = 9 * (s.size - k) + c + 1 := by unfold enF; rw [List.length_drop, bys_len]
theorem sch_range_all {l : List Int} (h : ∀ x ∈ l, 0 ≤ x ∧ x ≤ 30) : ∀ x ∈ l.map sch, 0 ≤ x ∧ x ≤ 255 := by
  intro x hx
  obtain ⟨y, hy, rfl⟩ := List.mem_map.1 hx
  exact sch_range (h y hy).1 (h y hy).2

end Go.Proofs.Ytllaeakeaabiaaa
