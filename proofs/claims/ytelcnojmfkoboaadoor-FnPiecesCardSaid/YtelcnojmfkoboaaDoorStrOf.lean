/- Texts out of rows of bytes. -/
import Derived.Test.YtelcnojmfkoboaaDoorBase
import Derived.Maps.AppendAt
import Derived.Handy
import Derived.Lib.SmallJoins
import Derived.Laws.AppendOwn
import Derived.Laws.IdiomStrings
import Derived.Lib.BufferRead
import Derived.RangeFuncBox
namespace Go.Proofs.YtelcnojmfkoboaaDoor
open Go.RowKit
set_option maxRecDepth 100000
set_option linter.unusedSimpArgs false
set_option linter.unusedVariables false

/-- A text out of numbers. -/
def strOf (l : List Int) : ByteArray := ⟨(l.map fun z => UInt8.ofNat z.toNat).toArray⟩
theorem strOf_size (l : List Int) : (strOf l).size = l.length := by simp [strOf, ByteArray.size]
theorem u8_of {z : Int} (h0 : 0 ≤ z) (h1 : z ≤ 255) : ((UInt8.ofNat z.toNat).toNat : Int) = z := by simp [UInt8.toNat_ofNat']; omega

theorem row_string {W : World} {base n : Nat} {v : Value} {l : List Int} (hown : W.ownsRow base 5 1 v n (l.map (Value.int .u8))) (hx : ∀ x ∈ l, 0 ≤ x ∧ x ≤ 255) :
    (convert 22 9 v).run Tryd.prog W = .ok (.string (strOf l)) W := by
  obtain ⟨h1, h2⟩ := hown
  rcases h2 with ⟨rfl, rfl⟩ | ⟨b, cap, cur, rfl, e2, e3, e4, e5, e6, e7⟩
  · have : l = [] := by simpa using h1
    subst this
    simpa [strOf] using Lib.run_convert_nil_bytes (P := Tryd.prog) W 22 9 5 0 Tryd.underlying22 Tryd.underlying5 Tryd.underlying9
  · have hn : (l.map fun z => UInt8.ofNat z.toNat).length = n := by simp at h1 ⊢; omega
    have := run_convert_bytes_back (P := Tryd.prog) W 22 9 5 ⟨b, 0, none⟩ cap (l.map fun z => UInt8.ofNat z.toNat) Tryd.underlying22 Tryd.underlying5 Tryd.underlying9 (fun j hjl => by
      have hj : j < l.length := by simpa using hjl
      have h6 : W.cell? ((⟨b, 0, none⟩ : Addr).add j) = cur[j]? := by by_cases hj0 : j = 0 <;> simp [Addr.add, World.cell?, e3, hj0]
      have h7 : cur.toList[j]? = some (Value.int .u8 l[j]) := by
        have h8 : (cur.toList.take n)[j]? = (l.map (Value.int .u8))[j]? := by rw [← e7]; simp
        rw [List.getElem?_take_of_lt (by simp at h1; omega)] at h8
        rw [h8]; simp [hj]
      rw [h6, ← Array.getElem?_toList, h7]
      have := hx l[j] (List.getElem_mem hj)
      rw [List.getElem_map, u8_of this.1 this.2])
    rw [hn] at this
    exact this

theorem ownsRow_one (w : World) (e : TypeId) (v : Value) : (w.alloc (.cells #[v] e)).ownsRow w.heap.size e 1 (.slice (some ⟨w.heap.size, 0, none⟩) 1 1) 1 [v] :=
  ⟨by simp, .inr ⟨w.heap.size, 1, #[v], rfl, Nat.le_refl _, World.alloc_heap_new w _, Nat.le_refl _, by simp [maxLen], by simp, by simp⟩⟩
end Go.Proofs.YtelcnojmfkoboaaDoor
