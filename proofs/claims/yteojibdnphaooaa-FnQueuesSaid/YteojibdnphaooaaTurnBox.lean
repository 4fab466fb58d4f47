/- A Round and a Line in boxes, what they own in an interval of blocks: carried beside a cursor. -/
import Derived.Test.YteojibdnphaooaaTurnRn
import Derived.Test.YteojibdnphaooaaCurTurn
import Derived.Test.YteojibdnphaooaaAppRows
import Derived.Test.YteojibdnphaooaaRowNew
namespace Go.Proofs.Yteojibdnphaooaa
open Go.RowKit
set_option maxRecDepth 100000
set_option linter.unusedSimpArgs false
set_option linter.unusedVariables false
theorem OwX.moves {D : Type} {E : Shp D} {w w' : World} {c lo hi : Nat} {v : Value} {L : List D} (h : OwX E w lo hi v L) (hm : Moves c w w') (hc : c < lo) : OwX E w' lo hi v L := h.turn hm.turn (.inr (by omega))
theorem Moves.kept {c : Nat} {a b b' : World} (h : Moves c a b) (k : Below a.heap.size b b') : Moves c a b' :=
  ⟨k.os.trans h.os, k.tape.trans h.tape, k.output.trans h.output, Nat.le_trans h.size k.size, fun i hi hne => (k.block i hi).trans (h.block i hi hne)⟩
/-- A Round in block g; its Lines and all behind them in blocks lo .. hi - 1. -/
structure RnX (w : World) (g lo hi : Nat) (d : RoundD) : Prop where
  ex : ∃ a p, RowIs w g 26 [.int .i64 d.turn, .bool d.given, .slice a d.ls.length p] ∧ OwX lineS w lo hi (.slice a d.ls.length p) d.ls
theorem RnX.new {w w' : World} {g lo hi : Nat} {d : RoundD} (h : RnX w g lo hi d) (hb : Below w.heap.size w w') : RnX w' g lo hi d := by
  obtain ⟨a, p, h1, h2⟩ := h.ex
  exact ⟨a, p, h1.new hb, h2.new hb⟩
theorem RnX.moves {w w' : World} {c g lo hi : Nat} {d : RoundD} (h : RnX w g lo hi d) (hm : Moves c w w') (h1 : c < lo) (h2 : c ≠ g) : RnX w' g lo hi d := by
  obtain ⟨a, p, a1, a2⟩ := h.ex
  exact ⟨a, p, a1.moves hm (fun e => h2 e.symm), a2.moves hm h1⟩
theorem RnX.far {w : World} {g lo hi : Nat} {d : RoundD} (h : RnX w g lo hi d) (p : Addr) (u : Value) (h1 : p.block ≠ g) (h2 : p.block < lo ∨ hi ≤ p.block) : RnX (w.setCell p u) g lo hi d := by
  obtain ⟨a, q, a1, a2⟩ := h.ex
  exact ⟨a, q, a1.far p u h1, a2.far p u h2⟩
theorem RnX.turn {w w' : World} {g lo hi lo' hi' : Nat} {d : RoundD} (h : RnX w g lo hi d) (ht : Turn lo' hi' w w') (h1 : hi ≤ lo') (h2 : g < lo') : RnX w' g lo hi d := by
  obtain ⟨a, q, a1, a2⟩ := h.ex
  exact ⟨a, q, a1.turn ht (.inl h2), a2.turn ht (.inl h1)⟩
theorem RnX.is {w : World} {g lo hi : Nat} {d : RoundD} (h : RnX w g lo hi d) (hg : g < lo) (h1 : 1 ≤ d.ls.length) : ∃ gl vp, RnIs w g lo gl vp d := by
  obtain ⟨a, p, a1, bs, hO, hn, hb⟩ := h.ex
  obtain ⟨gl, vp, cs, b, he, _⟩ := hO.swap hn 0 h1
  simp only [Value.slice.injEq] at he
  obtain ⟨rfl, -, rfl⟩ := he
  exact ⟨gl, p, a1, bs, hO, hn, fun e => by have := (hb _ e).1; omega, fun y hy => (hb y hy).1⟩
theorem RnIs.x {w : World} {g lo gl vp : Nat} {d : RoundD} (h : RnIs w g lo gl vp d) : RnX w g lo w.heap.size d := ⟨some ⟨gl, 0, none⟩, vp, h.row, h.owx⟩
theorem RnX.top {w : World} {g lo hi : Nat} {d : RoundD} (h : RnX w g lo hi d) : RnX w g lo w.heap.size d := by
  obtain ⟨a, p, a1, a2⟩ := h.ex
  exact ⟨a, p, a1, a2.top⟩
/-- A Line as a datum whose Sizes are a row of its own. -/
theorem line_owe {w : World} {lo hi : Nat} {x : LineD} {a : Option Addr} {p : Nat} (h : w.ownsRow lo 2 1 (.slice a x.sz.length p) x.sz.length (iv x.sz)) (hhi : w.heap.size ≤ hi) : OwE lineS w lo hi [.int .i64 x.wt, .int .i64 x.left, .slice a x.sz.length p] x :=
  ⟨(Value.slice a x.sz.length p).ownBlock.toList, ⟨_, _, rfl, ints_owr (owns_base h (fun _ _ => Nat.zero_le _)), rfl⟩, opt_nodup _, fun y hy => by
    cases hq : (Value.slice a x.sz.length p).ownBlock with
    | none => rw [hq] at hy; cases hy
    | some z => rw [hq] at hy; simp at hy; subst hy; have := h.lt y hq; omega⟩
/-- A row that is owned, opened for an append: its cells, and what the append leaves. -/
theorem OwX.grow {D : Type} {E : Shp D} {w : World} {lo mid : Nat} {v : Value} {L : List D} (h : OwX E w lo mid v L) (hmid : mid ≤ w.heap.size) (hlm : lo ≤ mid) : ∃ xs, w.ownsRow 0 E.ty E.size v L.length xs ∧
    ∀ (w1 : World) (v' : Value) (cs : List Value) (x : D), OwE E w mid w.heap.size cs x → w1.ownsRow 0 E.ty E.size v' (L.length + 1) (xs ++ cs) → w.grownBy w1 v.ownBlock → (v'.ownBlock = v.ownBlock ∨ v'.ownBlock = some w.heap.size) → OwX E w1 lo w1.heap.size v' (L ++ [x]) := by
  obtain ⟨bs, ⟨ts, hL, ho, hE, rfl⟩, hn, hb⟩ := h
  have hlen : L.length = ts.length := by rw [hL]; simp
  refine ⟨ts.flatMap (·.1), by rw [hlen]; exact ho, fun w1 v' cs x hx ho' hg hat => ?_⟩
  exact OwX.app (mid := mid) (hi := w.heap.size) hL ho hE hn hb hmid (by omega) hx hlm (by rw [← hlen]; exact ho') hg hat
/-- One more Line: what the store behind the append leaves. -/
theorem RnX.app {w w1 : World} {g lo : Nat} {d : RoundD} {x : LineD} {a a' : Option Addr} {p p' : Nat} (hrow : RowIs w g 26 [.int .i64 d.turn, .bool d.given, .slice a d.ls.length p]) (hg : g < lo) (hgb : (Value.slice a d.ls.length p).ownBlock ≠ some g)
    (hgr : w.grownBy w1 (Value.slice a d.ls.length p).ownBlock) (hox : OwX lineS w1 lo w1.heap.size (.slice a' (d.ls.length + 1) p') (d.ls ++ [x])) :
    RnX (w1.setCell ⟨g, 2, none⟩ (.slice a' (d.ls.length + 1) p')) g lo w1.heap.size ⟨d.turn, d.given, d.ls ++ [x]⟩ := by
  have hr1 := hrow.kept (hgr.block g hrow.lt (fun e => hgb e.symm))
  refine ⟨a', p', ?_, ?_⟩
  · have := hr1.set 2 (.slice a' (d.ls.length + 1) p')
    simpa using this
  · have := hox.far ⟨g, 2, none⟩ (.slice a' (d.ls.length + 1) p') (.inl hg)
    simpa using this
theorem RnIs.moves {w w' : World} {c g lo gl vp : Nat} {d : RoundD} (h : RnIs w g lo gl vp d) (hm : Moves c w w') (h1 : c < lo) (h2 : c ≠ g) : RnIs w' g lo gl vp d := by
  obtain ⟨bs, a1, a2, a3, a4⟩ := h.ex
  exact ⟨h.row.moves hm (fun e => h2 e.symm), bs, a1.keep hm.size (fun y hy => hm.block y (a1.lt y hy) (by have := a4 y hy; omega)), a2, a3, a4⟩
end Go.Proofs.Yteojibdnphaooaa
