/- A Memory that is drawn: it is right, and its lists lie in new memory. -/
import Derived.Test.YtdplpkobpoiioaaDrawCells
import Derived.Deep.RegionLaw


namespace Go.Proofs.Ytdplpkobpoiioaa
open Go.RowKit
set_option linter.unusedSimpArgs false
set_option linter.unusedVariables false

/-- While a Memory is drawn: its lists, its box bx, the answer's box rb, the cursor. -/
structure DSt (w0 w : World) (g B rb bx : Nat) (m : Mm) : Prop where
  own : OwnM w (w0.heap.size + 1) w.heap.size m
  cur : Cur w g B
  mov : Moves g w0 w
  b0 : w.cell? ⟨bx, 0, none⟩ = some m.cv
  b1 : w.cell? ⟨bx, 1, none⟩ = some m.tv
  bf : ∀ o, w.frozen? ⟨bx, o, none⟩ = false
  r0 : w.cell? ⟨rb, 0, none⟩ = some (.slice none 0 0)
  r1 : w.cell? ⟨rb, 1, none⟩ = some (.slice none 0 0)
  rf : ∀ o, w.frozen? ⟨rb, o, none⟩ = false
  lt : bx < w.heap.size
  ge : w0.heap.size < bx
  rb : rb = w0.heap.size
  gw : g < w0.heap.size
  ne : ∀ u ∈ m.cv :: m.tv :: m.ths.map Th.sv, u.ownBlock ≠ some bx

theorem DSt.on {w0 w w' : World} {g B rb bx : Nat} {m : Mm} (h : DSt w0 w g B rb bx m) (hm : Moves g w w') (hc : Cur w' g B) : DSt w0 w' g B rb bx m := by
  have h1 := h.lt; have h2 := h.ge; have h3 := h.rb; have h4 := h.gw; have h5 := hm.size
  refine ⟨(h.own.moves hm (by omega)).hi h5, hc, h.mov.trans hm, ?_, ?_, fun o => ?_, ?_, ?_, fun o => ?_, by omega, h.ge, h.rb, h.gw, h.ne⟩
  · rw [hm.cell bx 0 h1 (by omega)]; exact h.b0
  · rw [hm.cell bx 1 h1 (by omega)]; exact h.b1
  · rw [hm.frozen bx o h1 (by omega)]; exact h.bf o
  · rw [hm.cell rb 0 (by omega) (by omega)]; exact h.r0
  · rw [hm.cell rb 1 (by omega) (by omega)]; exact h.r1
  · rw [hm.frozen rb o (by omega) (by omega)]; exact h.rf o
theorem DSt.new {w0 w w' : World} {g B rb bx : Nat} {m : Mm} (h : DSt w0 w g B rb bx m) (hb : Below w.heap.size w w') : DSt w0 w' g B rb bx m := h.on (Moves.of_below hb) (h.cur.below hb)

theorem after_app {w5 w6 : World} {o : Obj} {row : Option Nat} (hg : (w5.alloc o).grownBy w6 row) (b : Nat) (hb : b < w5.heap.size) (hne : row ≠ some b) : w6.heap[b]? = w5.heap[b]? :=
  (hg.block b (by simp; omega) (fun e => hne e.symm)).trans (((Below.refl _ w5).alloc (Nat.le_refl _) o).block b hb)
theorem sv_app (S R : List St) : sv (S ++ R) = sv S ++ sv R := by unfold sv; rw [List.flatMap_append]
theorem all_app {S R : List St} (h1 : S.all okSt = true) (h2 : R.all okSt = true) : (S ++ R).all okSt = true := by rw [List.all_append, h1, h2]; rfl
/-- A Thread's box while its Steps are drawn: what it is behind an append. -/
theorem grown_steps {wo w5 w6 : World} {g B : Nat} {o : Obj} {v3 : Value} {S : List St} {n : Nat} {ad6 : Option Addr} {cap6 : Nat} {R : List St} (hg : g < wo.heap.size) (hv : w5.ownsRow (wo.heap.size + 1) 44 3 v3 n (sv S)) (hgr : (w5.alloc o).grownBy w6 v3.ownBlock) (hlt : wo.heap.size < w5.heap.size)
    (hown : w6.ownsRow (wo.heap.size + 1) 44 3 (.slice ad6 (n + R.length) cap6) (n + R.length) (sv S ++ sv R)) (hn : n = S.length) (hc : Cur w5 g B) (hm : Moves g wo w5) (i0 : w5.cell? ⟨wo.heap.size, 0, none⟩ = some v3) (i1 : w5.cell? ⟨wo.heap.size, 1, none⟩ = some (.int .i64 0)) (i2 : w5.cell? ⟨wo.heap.size, 2, none⟩ = some (.int .i64 0)) (i3 : w5.cell? ⟨wo.heap.size, 3, none⟩ = some (.int .i64 0)) (jf : w5.frozen? ⟨wo.heap.size, 0, none⟩ = false) :
    (w6.setCell ⟨wo.heap.size, 0, none⟩ (.slice ad6 (n + R.length) cap6)).ownsRow (wo.heap.size + 1) 44 3 (.slice ad6 (n + R.length) cap6) (S ++ R).length (sv (S ++ R)) ∧ (w6.setCell ⟨wo.heap.size, 0, none⟩ (.slice ad6 (n + R.length) cap6)).cell? ⟨wo.heap.size, 0, none⟩ = some (.slice ad6 (n + R.length) cap6) ∧
    (w6.setCell ⟨wo.heap.size, 0, none⟩ (.slice ad6 (n + R.length) cap6)).cell? ⟨wo.heap.size, 1, none⟩ = some (.int .i64 0) ∧ (w6.setCell ⟨wo.heap.size, 0, none⟩ (.slice ad6 (n + R.length) cap6)).cell? ⟨wo.heap.size, 2, none⟩ = some (.int .i64 0) ∧ (w6.setCell ⟨wo.heap.size, 0, none⟩ (.slice ad6 (n + R.length) cap6)).cell? ⟨wo.heap.size, 3, none⟩ = some (.int .i64 0) ∧
    (w6.setCell ⟨wo.heap.size, 0, none⟩ (.slice ad6 (n + R.length) cap6)).frozen? ⟨wo.heap.size, 0, none⟩ = false ∧ Cur (w6.setCell ⟨wo.heap.size, 0, none⟩ (.slice ad6 (n + R.length) cap6)) g B ∧ Moves g wo (w6.setCell ⟨wo.heap.size, 0, none⟩ (.slice ad6 (n + R.length) cap6)) ∧ wo.heap.size < (w6.setCell ⟨wo.heap.size, 0, none⟩ (.slice ad6 (n + R.length) cap6)).heap.size := by
  have hp : ∀ q, v3.ownBlock = some q → wo.heap.size + 1 ≤ q := fun q hq => (hv.lt q hq).1
  have q6 := after_app hgr wo.heap.size hlt (fun e => by have := hp _ e; omega)
  have k : ∀ j, w6.cell? ⟨wo.heap.size, j, none⟩ = w5.cell? ⟨wo.heap.size, j, none⟩ := fun j => World.cell?_of_block (a := ⟨wo.heap.size, j, none⟩) q6
  have f : w6.frozen? ⟨wo.heap.size, 0, none⟩ = false := (World.frozen?_of_block (a := ⟨wo.heap.size, 0, none⟩) q6).trans jf
  have hs := hgr.size
  simp at hs
  have hoth : ∀ j, j ≠ 0 → (w6.setCell ⟨wo.heap.size, 0, none⟩ (.slice ad6 (n + R.length) cap6)).cell? ⟨wo.heap.size, j, none⟩ = w6.cell? ⟨wo.heap.size, j, none⟩ := fun j hj => World.cell?_setCell_other _ _ _ _ (by intro e; cases e; exact hj rfl)
  have k0 := k 0
  rw [i0] at k0
  refine ⟨?_, (by simp [k0, go_sem]), ?_, ?_, ?_, (by rw [World.frozen?_setCell]; exact f), ?_, ?_, (by simp; omega)⟩
  · rw [sv_app, List.length_append, ← hn]
    exact owns_apart hown _ _ (fun e => by have h : wo.heap.size + 1 ≤ wo.heap.size := (hown.lt _ e).1; omega)
  · rw [hoth 1 (by decide), k 1]; exact i1
  · rw [hoth 2 (by decide), k 2]; exact i2
  · rw [hoth 3 (by decide), k 3]; exact i3
  · exact ((hc.alloc _).grown hgr (fun q hq => by have := hp q hq; omega)).set _ _ (by simp; omega)
  · exact ((hm.alloc _).grown hgr (fun q hq => by have := hp q hq; omega)).setNew _ (by simp) _
theorem cell_other {w : World} {p : Addr} {v : Value} (b o : Nat) (h : b ≠ p.block) : (w.setCell p v).cell? ⟨b, o, none⟩ = w.cell? ⟨b, o, none⟩ := World.cell?_of_block (Below.heap_setCell w p v b h)
theorem frozen_other {w : World} {p : Addr} {v : Value} (b o : Nat) (h : b ≠ p.block) : (w.setCell p v).frozen? ⟨b, o, none⟩ = w.frozen? ⟨b, o, none⟩ := World.frozen?_of_block (Below.heap_setCell w p v b h)
theorem DSt.cell {w0 w : World} {g B rb bx : Nat} {v1 v2 : Value} {C : List Int} {A : List Th} (h : DSt w0 w g B rb bx ⟨v1, C, v2, A⟩) {g1 : Nat} (hg1 : v1.ownBlock = some g1) (k : Nat) (y : Int) : DSt w0 (w.setCell ⟨g1, k, none⟩ (.int .i64 y)) g B rb bx ⟨v1, C.set k y, v2, A⟩ := by
  have h1 := (h.own.cel.lt g1 hg1).1
  have h2 : g1 ≠ bx := fun e => h.ne v1 List.mem_cons_self (by rw [hg1, e])
  have h3 := h.gw; have h4 := h.rb; have h5 := h.lt; have h6 := h.ge
  have hap : ∀ u ∈ v2 :: A.map Th.sv, u.ownBlock ≠ some g1 := fun u hu e => h.own.apart u hu g1 hg1 e
  refine ⟨⟨?_, ⟨owns_apart h.own.ths.row _ _ (hap _ List.mem_cons_self), fun t ht => owns_apart (h.own.ths.st t ht) _ _ (hap _ (List.mem_cons_of_mem _ (List.mem_map_of_mem ht))), h.own.ths.apart, fun u hu q hq => by simpa using h.own.ths.up u hu q hq⟩, h.own.apart, fun q hq => by simpa using h.own.up q hq⟩, h.cur.set _ _ (by simp; omega), h.mov.setNew _ (by simp; omega) _, ?_, ?_, fun o => ?_, ?_, ?_, fun o => ?_, by simpa using h5, h6, h4, h3, h.ne⟩
  · have := owns_set h.own.cel hg1 k (.int .i64 y)
    rw [iv_set] at this
    simpa using this
  · rw [cell_other _ _ (fun e => h2 e.symm)]; exact h.b0
  · rw [cell_other _ _ (fun e => h2 e.symm)]; exact h.b1
  · rw [frozen_other _ _ (fun e => h2 e.symm)]; exact h.bf o
  · rw [cell_other _ _ (by simp; omega)]; exact h.r0
  · rw [cell_other _ _ (by simp; omega)]; exact h.r1
  · rw [frozen_other _ _ (by simp; omega)]; exact h.rf o

end Go.Proofs.Ytdplpkobpoiioaa
