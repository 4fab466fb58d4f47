/- The cursor beside memory that turns within an interval of blocks. (DrawCells holds the same for its own seat.) -/
import Derived.Test.YtelcnojmfkoboaaDoorText
import Derived.Test.YtelcnojmfkoboaaDoorHeapRows
import Derived.Test.YtelcnojmfkoboaaDoorRowIs


namespace Go.Proofs.YtelcnojmfkoboaaDoor
open Go.RowKit
set_option maxRecDepth 100000
set_option linter.unusedSimpArgs false
set_option linter.unusedVariables false

theorem Moves.turn {g : Nat} {w w' : World} (h : Moves g w w') : Turn g (g + 1) w w' := ⟨h.os, h.tape, h.output, h.size, fun k hk hg => h.block k hk (by omega)⟩
theorem owns_moves {w w' : World} {g base n size : Nat} {e : TypeId} {v : Value} {xs : List Value} (h : w.ownsRow base e size v n xs) (hm : Moves g w w') (hg : g < base) : w'.ownsRow base e size v n xs :=
  owns_turn h hm.turn fun k hk => by have := (h.lt k hk).1; omega
theorem Cur.turn {w w' : World} {g B lo hi : Nat} (h : Cur w g B) (ht : Turn lo hi w w') (hl : g < lo) : Cur w' g B :=
  h.kept ⟨ht.os, ht.tape, ht.output, ht.size, fun k hk => ht.block k (by have := h.lt; omega) (by omega)⟩
theorem Moves.turned {w a b : World} {g lo hi : Nat} (h : Moves g w a) (ht : Turn lo hi a b) (hl : w.heap.size ≤ lo) : Moves g w b :=
  ⟨ht.os.trans h.os, ht.tape.trans h.tape, ht.output.trans h.output, Nat.le_trans h.size ht.size, fun k hk hg => (ht.block k (by have := h.size; omega) (by omega)).trans (h.block k hk hg)⟩

theorem from1 (g B : Nat) (lo hi : Int) (w : World) (hc : Cur w g B) (h0 : -1000 ≤ lo) (h1 : lo ≤ hi) (h2 : hi ≤ 1000) :
    Calls Tryd.prog 45 #[.pointer (some ⟨g, 0, none⟩), .int .i64 lo, .int .i64 hi] w fun e w' => ∃ x : Int, lo ≤ x ∧ x ≤ hi ∧ e = .returned (.int .i64 x) ∧ Cur w' g B ∧ Moves g w w' := by
  go_enter Tryd.func45, Tryd.ntmps45
  go_wp2_with fail
  refine (below1 g B (hi - lo + 1) _ hc (by omega)).mono ?_; rintro e w1 ⟨x, x0, x1, x2, rfl, hc1, hm1⟩
  have x3 := x1 (by omega)
  go_wp2_with fail
  go_ret
  exact ⟨lo + x, by omega, by omega, rfl, hc1, hm1⟩
theorem RowIs.moves {w w' : World} {g b : Nat} {ty : TypeId} {cs : List Value} (h : RowIs w b ty cs) (hm : Moves g w w') (hne : b ≠ g) : RowIs w' b ty cs := h.kept (hm.block b h.lt hne)
theorem RowIs.turn {w w' : World} {lo hi b : Nat} {ty : TypeId} {cs : List Value} (h : RowIs w b ty cs) (ht : Turn lo hi w w') (hne : b < lo ∨ hi ≤ b) : RowIs w' b ty cs := h.kept (ht.block b h.lt hne)
end Go.Proofs.YtelcnojmfkoboaaDoor
