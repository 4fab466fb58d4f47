/- What FnTables draws. -/
import Derived.Test.YtejmnkabmajebaaQG11
import Derived.Test.YtejmnkabmajebaaQG3
namespace Go.Proofs.Ytejmnkabmajebaa
open Go.RowKit
set_option maxRecDepth 100000
set_option linter.unusedSimpArgs false
set_option linter.unusedVariables false

/-- Of the blocks from lo on only g has turned. -/
def Keeps (lo g : Nat) (u u' : World) : Prop := ∀ k, lo ≤ k → k < u.heap.size → k ≠ g → u'.heap[k]? = u.heap[k]?
def IntR (g lo : Nat) (u : World) (x : Value) : Prop := ∃ (b : Nat) (s0 s1 s2 s3 : Int), x = .slice (some ⟨b, 0, none⟩) 4 4 ∧ b ≠ g ∧ lo ≤ b ∧ RowIs u b 2 [.int .i64 s0, .int .i64 s1, .int .i64 s2, .int .i64 s3]
theorem IntR.keeps {g lo : Nat} {u u' : World} {x : Value} (h : IntR g lo u x) (hk : Keeps lo g u u') : IntR g lo u' x := by
  obtain ⟨b, s0, s1, s2, s3, rfl, hg, hl, hr⟩ := h
  exact ⟨b, s0, s1, s2, s3, rfl, hg, hl, hr.kept (hk b hl hr.lt hg)⟩
def IntC (g lo : Nat) (u : World) (x : Value) : Prop := ∃ (b k : Nat) (s : Int), x = .pointer (some ⟨b, k, none⟩) ∧ b ≠ g ∧ lo ≤ b ∧ u.cell? ⟨b, k, none⟩ = some (.int .i64 s)
theorem IntC.keeps {g lo : Nat} {u u' : World} {x : Value} (h : IntC g lo u x) (hk : Keeps lo g u u') : IntC g lo u' x := by
  obtain ⟨b, k, s, rfl, hg, hl, hc⟩ := h
  exact ⟨b, k, s, rfl, hg, hl, (World.cell?_of_block (w := u) (hk b hl (World.block_lt_of_cell? u ⟨b, k, none⟩ hc) hg)).trans hc⟩
def Int1 (x : Value) : Prop := ∃ s : Int, x = .int .i64 s
/-- A Table's block; d: it has been written. -/
def TabR (q : Nat) (u : World) (r s : Value) (d : Prop) : Prop := ∃ v0 v1, RowIs u q 26 [v0, v1] ∧ (d → v0 = r ∧ v1 = s)
theorem TabR.keep {q : Nat} {u u' : World} {r s : Value} {d d' : Prop} (h : TabR q u r s d) (hk : u'.heap[q]? = u.heap[q]?) (hd : d' → d) : TabR q u' r s d' := by
  obtain ⟨v0, v1, h1, h2⟩ := h
  exact ⟨v0, v1, h1.kept hk, fun k => h2 (hd k)⟩
theorem Cur.low {w : World} {g B : Nat} (h : Cur w g B) (p : Addr) (v : Value) (h1 : B ≤ p.block) (h2 : p.block ≠ g) : Cur (w.setCell p v) g B := by
  obtain ⟨h0, a, len, cap, i, hh, q1, q2, q3, hg⟩ := h
  exact ⟨h0, a, len, cap, i, hh, q1, q2, q3.kept ((Below.refl B w).setCell h1 v), by rw [Below.heap_setCell w p v g (fun e => h2 e.symm)]; exact hg⟩




end Go.Proofs.Ytejmnkabmajebaa
