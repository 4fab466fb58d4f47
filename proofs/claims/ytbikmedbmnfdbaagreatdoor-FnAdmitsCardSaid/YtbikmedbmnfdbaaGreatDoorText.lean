/- A text that is drawn: some bytes, no more than asked for; of what was there the cursor alone has moved. -/
import Derived.Test.YtbikmedbmnfdbaaGreatDoorCur
import Derived.Handy
import Derived.Lib.SmallJoins
import Derived.Laws.AppendOwn
import Derived.Laws.IdiomStrings
import Derived.Lib.BufferRead
namespace Go.Proofs.YtbikmedbmnfdbaaGreatDoor
open Go.RowKit
set_option maxRecDepth 100000
set_option linter.unusedSimpArgs false
set_option linter.unusedVariables false

/-- A byte's value. -/
def ByteVal (v : Value) : Prop := ∃ z : Int, v = .int .u8 z ∧ 0 ≤ z ∧ z ≤ 255

theorem ownsRow_moves {w w' : World} {g base n size : Nat} {e : TypeId} {v : Value} {xs : List Value} (h : w.ownsRow base e size v n xs) (hm : Moves g w w') (hg : g < base) : w'.ownsRow base e size v n xs := by
  obtain ⟨h1, h2⟩ := h
  refine ⟨h1, ?_⟩
  rcases h2 with h2 | ⟨b, cap, cur, e1, e2, e3, e4⟩
  · exact .inl h2
  · refine .inr ⟨b, cap, cur, e1, e2, ?_, e4⟩
    rw [hm.block b (Array.getElem?_eq_some_iff.1 e3).1 (by omega)]
    exact e3

theorem Moves.grown {g : Nat} {w a b : World} {row : Option Nat} (h : Moves g w a) (hg : a.grownBy b row) (hr : ∀ k, row = some k → w.heap.size ≤ k) : Moves g w b :=
  ⟨hg.os.trans h.os, hg.tape.trans h.tape, hg.output.trans h.output, Nat.le_trans h.size hg.size, fun k hk hne => (hg.block k (Nat.lt_of_lt_of_le hk h.size) (fun e => by have := hr k e.symm; omega)).trans (h.block k hk hne)⟩

theorem Cur.grown {w w' : World} {g B : Nat} {row : Option Nat} (h : Cur w g B) (hg : w.grownBy w' row) (hr : ∀ k, row = some k → g < k) : Cur w' g B :=
  h.kept ⟨hg.os, hg.tape, hg.output, hg.size, fun k hk => hg.block k (by have := h.lt; omega) (fun e => by have := hr k e.symm; omega)⟩

theorem bytes_list : ∀ (xs : List Value), (∀ v ∈ xs, ByteVal v) → ∃ l : List UInt8, l.length = xs.length ∧ ∀ j (hj : j < l.length), xs[j]? = some (.int .u8 (l[j].toNat : Int))
  | [], _ => ⟨[], rfl, fun j hj => by simp at hj⟩
  | v :: xs, h => by
    obtain ⟨l, hl, hj⟩ := bytes_list xs (fun u hu => h u (List.mem_cons_of_mem _ hu))
    obtain ⟨z, rfl, z0, z1⟩ := h v List.mem_cons_self
    refine ⟨UInt8.ofNat z.toNat :: l, by simp [hl], fun j hjj => ?_⟩
    cases j with
    | zero =>
      have : ((UInt8.ofNat z.toNat).toNat : Int) = z := by simp [UInt8.toNat_ofNat']; omega
      show some (Value.int .u8 z) = some (Value.int .u8 ((UInt8.ofNat z.toNat).toNat : Int))
      rw [this]
    | succ k =>
      have := hj k (by simpa using hjj)
      simpa using this

theorem row_to_string {W : World} {base n : Nat} {v : Value} {xs : List Value} (hown : W.ownsRow base 5 1 v n xs) (hx : ∀ u ∈ xs, ByteVal u) :
    ∃ s : ByteArray, s.size = n ∧ (convert 22 9 v).run Tryz.prog W = .ok (.string s) W := by
  obtain ⟨h1, h2⟩ := hown
  rcases h2 with ⟨rfl, rfl⟩ | ⟨b, cap, cur, rfl, e2, e3, e4, e5, e6, e7⟩
  · exact ⟨⟨#[]⟩, rfl, by simpa using Lib.run_convert_nil_bytes (P := Tryz.prog) W 22 9 5 0 Tryz.underlying22 Tryz.underlying5 Tryz.underlying9⟩
  · obtain ⟨l, hl, hj⟩ := bytes_list xs hx
    have hn : l.length = n := by omega
    refine ⟨⟨l.toArray⟩, by simp [ByteArray.size, hn], ?_⟩
    have := run_convert_bytes_back (P := Tryz.prog) W 22 9 5 ⟨b, 0, none⟩ cap l Tryz.underlying22 Tryz.underlying5 Tryz.underlying9 (fun j hjl => by
      have h5 := hj j hjl
      have h6 : W.cell? ((⟨b, 0, none⟩ : Addr).add j) = cur[j]? := by by_cases hj0 : j = 0 <;> simp [Addr.add, World.cell?, e3, hj0]
      rw [h6, ← Array.getElem?_toList, ← h5, ← e7, List.getElem?_take_of_lt (by omega)])
    rw [hn] at this
    exact this

theorem ownsRow_set {W : World} {base b n cap t : Nat} {e : TypeId} {xs : List Value} (h : W.ownsRow base e 1 (.slice (some ⟨b, 0, none⟩) n cap) n xs) (u : Value) :
    (W.setCell ⟨b, t, none⟩ u).ownsRow base e 1 (.slice (some ⟨b, 0, none⟩) n cap) n (xs.set t u) := by
  obtain ⟨h1, h2⟩ := h
  refine ⟨by simpa using h1, ?_⟩
  rcases h2 with ⟨h2, _⟩ | ⟨b', cap', cur, e1, e2, e3, e4, e5, e6, e7⟩
  · cases h2
  · simp only [Value.slice.injEq, Option.some.injEq, Addr.mk.injEq, and_true, true_and] at e1
    obtain ⟨rfl, rfl⟩ := e1
    refine .inr ⟨b, cap, cur.setIfInBounds t u, rfl, e2, Joins.block_setCell e3 u, e4, e5, by simpa using e6, ?_⟩
    rw [Array.toList_setIfInBounds, List.take_set, e7]

theorem ownsRow_at {W : World} {base b n cap t : Nat} {e : TypeId} {xs : List Value} (h : W.ownsRow base e 1 (.slice (some ⟨b, 0, none⟩) n cap) n xs) (ht : t < n) :
    (∃ u, W.cell? ⟨b, t, none⟩ = some u) ∧ W.frozen? ⟨b, t, none⟩ = false ∧ base ≤ b ∧ n ≤ cap ∧ b < W.heap.size := by
  obtain ⟨h1, h2⟩ := h
  rcases h2 with ⟨h2, _⟩ | ⟨b', cap', cur, e1, e2, e3, e4, e5, e6, e7⟩
  · cases h2
  · simp only [Value.slice.injEq, Option.some.injEq, Addr.mk.injEq, and_true, true_and] at e1
    obtain ⟨rfl, rfl⟩ := e1
    have hlt : t < cur.size := by omega
    exact ⟨⟨cur[t], by rw [Joins.cell_of_block e3, Array.getElem?_eq_getElem hlt]⟩, Joins.unfrozen_of_block e3 t, e2, e4, (Array.getElem?_eq_some_iff.1 e3).1⟩

theorem mem_set_byte {xs : List Value} (hx : ∀ u ∈ xs, ByteVal u) (t : Nat) (u : Value) (hu : ByteVal u) : ∀ v ∈ xs.set t u, ByteVal v := by
  intro v hv
  rcases List.mem_or_eq_of_mem_set hv with h | h
  · exact hx v h
  · rw [h]; exact hu

theorem mem_append_byte {xs : List Value} (hx : ∀ u ∈ xs, ByteVal u) (u : Value) (hu : ByteVal u) : ∀ v ∈ xs ++ [u], ByteVal v := by
  intro v hv
  rcases List.mem_append.1 hv with h | h
  · exact hx v h
  · simp at h; rw [h]; exact hu

end Go.Proofs.YtbikmedbmnfdbaaGreatDoor
