/- The Memory that FnCells makes of its own: Threads that load and swap by one, one behind the other. -/
import Derived.Test.YtdplpkobpoiioaaDrawCells3
import Derived.Test.YtdplpkobpoiioaaRowIs
namespace Go.Proofs.Ytdplpkobpoiioaa
open Go.RowKit
set_option linter.unusedSimpArgs false
set_option linter.unusedVariables false
theorem below_row {w0 a b : World} {row : Option Nat} (h : Below w0.heap.size w0 a) (hg : a.grownBy b row) (hr : ∀ k, row = some k → w0.heap.size ≤ k) : Below w0.heap.size w0 b :=
  ⟨hg.os.trans h.os, hg.tape.trans h.tape, hg.output.trans h.output, Nat.le_trans h.size hg.size, fun k hk => (hg.block k (Nat.lt_of_lt_of_le hk h.size) (fun e => by have := hr k e.symm; omega)).trans (h.block k hk)⟩
/-- While a Memory is made: its lists, its box bx. -/
structure OSt (w0 w : World) (bx : Nat) (m : Mm) : Prop where
  own : OwnM w w0.heap.size w.heap.size m
  bel : Below w0.heap.size w0 w
  b0 : w.cell? ⟨bx, 0, none⟩ = some m.cv
  b1 : w.cell? ⟨bx, 1, none⟩ = some m.tv
  bf : ∀ o, w.frozen? ⟨bx, o, none⟩ = false
  lt : bx < w.heap.size
  ge : w0.heap.size ≤ bx
  ne : ∀ u ∈ m.cv :: m.tv :: m.ths.map Th.sv, u.ownBlock ≠ some bx
theorem OSt.new {w0 w w' : World} {bx : Nat} {m : Mm} (h : OSt w0 w bx m) (hb : Below w.heap.size w w') : OSt w0 w' bx m := by
  have h1 := h.lt; have h5 := hb.size
  refine ⟨(h.own.new hb).hi h5, bchain h.bel hb, ?_, ?_, fun o => ?_, by omega, h.ge, h.ne⟩
  · rw [hb.cell (p := ⟨bx, 0, none⟩) h1]; exact h.b0
  · rw [hb.cell (p := ⟨bx, 1, none⟩) h1]; exact h.b1
  · rw [hb.frozen (p := ⟨bx, o, none⟩) h1]; exact h.bf o
/-- A Thread's box while its Steps are drawn: what it is behind an append. -/
theorem grown_st {wo w5 w6 : World} {o : Obj} {v3 : Value} {S : List St} {n : Nat} {ad6 : Option Addr} {cap6 : Nat} {R : List St} {kk : Nat} (hkk : R.length = kk) (hv : w5.ownsRow (wo.heap.size + 1) 44 3 v3 n (sv S)) (hgr : (w5.alloc o).grownBy w6 v3.ownBlock) (hlt : wo.heap.size < w5.heap.size)
    (hown : w6.ownsRow (wo.heap.size + 1) 44 3 (.slice ad6 (n + kk) cap6) (n + kk) (sv S ++ sv R)) (hn : n = S.length) (hm : Below wo.heap.size wo w5) (i0 : w5.cell? ⟨wo.heap.size, 0, none⟩ = some v3) (i1 : w5.cell? ⟨wo.heap.size, 1, none⟩ = some (.int .i64 0)) (i2 : w5.cell? ⟨wo.heap.size, 2, none⟩ = some (.int .i64 0)) (i3 : w5.cell? ⟨wo.heap.size, 3, none⟩ = some (.int .i64 0)) (jf : w5.frozen? ⟨wo.heap.size, 0, none⟩ = false) :
    (w6.setCell ⟨wo.heap.size, 0, none⟩ (.slice ad6 (n + kk) cap6)).ownsRow (wo.heap.size + 1) 44 3 (.slice ad6 (n + kk) cap6) (S ++ R).length (sv (S ++ R)) ∧ (w6.setCell ⟨wo.heap.size, 0, none⟩ (.slice ad6 (n + kk) cap6)).cell? ⟨wo.heap.size, 0, none⟩ = some (.slice ad6 (n + kk) cap6) ∧
    (w6.setCell ⟨wo.heap.size, 0, none⟩ (.slice ad6 (n + kk) cap6)).cell? ⟨wo.heap.size, 1, none⟩ = some (.int .i64 0) ∧ (w6.setCell ⟨wo.heap.size, 0, none⟩ (.slice ad6 (n + kk) cap6)).cell? ⟨wo.heap.size, 2, none⟩ = some (.int .i64 0) ∧ (w6.setCell ⟨wo.heap.size, 0, none⟩ (.slice ad6 (n + kk) cap6)).cell? ⟨wo.heap.size, 3, none⟩ = some (.int .i64 0) ∧
    (w6.setCell ⟨wo.heap.size, 0, none⟩ (.slice ad6 (n + kk) cap6)).frozen? ⟨wo.heap.size, 0, none⟩ = false ∧ Below wo.heap.size wo (w6.setCell ⟨wo.heap.size, 0, none⟩ (.slice ad6 (n + kk) cap6)) ∧ wo.heap.size < (w6.setCell ⟨wo.heap.size, 0, none⟩ (.slice ad6 (n + kk) cap6)).heap.size := by
  subst hkk
  have hp : ∀ q, v3.ownBlock = some q → wo.heap.size + 1 ≤ q := fun q hq => (hv.lt q hq).1
  have q6 := after_app hgr wo.heap.size hlt (fun e => by have := hp _ e; omega)
  have k : ∀ j, w6.cell? ⟨wo.heap.size, j, none⟩ = w5.cell? ⟨wo.heap.size, j, none⟩ := fun j => World.cell?_of_block (a := ⟨wo.heap.size, j, none⟩) q6
  have f : w6.frozen? ⟨wo.heap.size, 0, none⟩ = false := (World.frozen?_of_block (a := ⟨wo.heap.size, 0, none⟩) q6).trans jf
  have hs := hgr.size
  simp at hs
  have hoth : ∀ j, j ≠ 0 → (w6.setCell ⟨wo.heap.size, 0, none⟩ (.slice ad6 (n + R.length) cap6)).cell? ⟨wo.heap.size, j, none⟩ = w6.cell? ⟨wo.heap.size, j, none⟩ := fun j hj => World.cell?_setCell_other _ _ _ _ (by intro e; cases e; exact hj rfl)
  have k0 := k 0
  rw [i0] at k0
  refine ⟨?_, (by simp [k0, go_sem]), ?_, ?_, ?_, (by rw [World.frozen?_setCell]; exact f), ?_, (by simp; omega)⟩
  · rw [sv_app, List.length_append, ← hn]
    exact owns_apart hown _ _ (fun e => by have h : wo.heap.size + 1 ≤ wo.heap.size := (hown.lt _ e).1; omega)
  · rw [hoth 1 (by decide), k 1]; exact i1
  · rw [hoth 2 (by decide), k 2]; exact i2
  · rw [hoth 3 (by decide), k 3]; exact i3
  · exact (below_row (bo_alloc hm _) hgr (fun q hq => by have := hp q hq; omega)).setCell (by simp) _
theorem OSt.thread {w0 w5 w6 : World} {bx n : Nat} {m : Mm} (h : OSt w0 w5 bx m) {v3 : Value} {S : List St} {pos seen won : Int}
    (hv : w5.ownsRow (w0.heap.size) 44 3 v3 S.length (sv S)) (hvap : ∀ u ∈ m.cv :: m.tv :: m.ths.map Th.sv, Ap u v3) (hvbx : v3.ownBlock ≠ some bx)
    {ad6 : Option Addr} {cap6 : Nat} {o : Obj} (hgr : (w5.alloc o).grownBy w6 m.tv.ownBlock)
    (hown : w6.ownsRow (w0.heap.size) 41 4 (.slice ad6 (n + 1) cap6) (n + 1) (tv m.ths ++ [v3, .int .i64 pos, .int .i64 seen, .int .i64 won]))
    (hat : (Value.slice ad6 (n + 1) cap6).ownBlock = m.tv.ownBlock ∨ (Value.slice ad6 (n + 1) cap6).ownBlock = some (w5.alloc o).heap.size) (hn : n = m.ths.length) :
    OSt w0 (w6.setCell ⟨bx, 1, none⟩ (.slice ad6 (n + 1) cap6)) bx ⟨m.cv, m.cells, .slice ad6 (n + 1) cap6, m.ths ++ [⟨v3, S, pos, seen, won⟩]⟩ := by
  obtain ⟨cv, C, v2, A⟩ := m
  simp only at *
  have hlt := h.lt; have hge := h.ge
  have hs6 := hgr.size
  simp at hs6
  have htv : ∀ q, v2.ownBlock = some q → w0.heap.size ≤ q ∧ q < w5.heap.size := fun q hq => h.own.ths.row.lt q hq
  have hbxne : v2.ownBlock ≠ some bx := h.ne v2 (by simp)
  have keep : ∀ b, b < w5.heap.size → v2.ownBlock ≠ some b → w6.heap[b]? = w5.heap[b]? := fun b hb hne => after_app hgr b hb hne
  have kb := keep bx hlt hbxne
  have Xbx : (Value.slice ad6 (n + 1) cap6).ownBlock ≠ some bx := by
    rcases hat with e | e
    · rw [e]; exact hbxne
    · rw [e]; simp; omega
  have Xlt : ∀ q, (Value.slice ad6 (n + 1) cap6).ownBlock = some q → v2.ownBlock = some q ∨ q = w5.heap.size + 1 := by
    intro q hq
    rcases hat with e | e
    · exact .inl (e ▸ hq)
    · rw [e] at hq; simp at hq; exact .inr hq.symm
  have row : ∀ {ty : TypeId} {size k : Nat} {u : Value} {xs : List Value}, w5.ownsRow (w0.heap.size) ty size u k xs → (∀ q, u.ownBlock = some q → v2.ownBlock ≠ some q) → u.ownBlock ≠ some bx → (w6.setCell ⟨bx, 1, none⟩ (.slice ad6 (n + 1) cap6)).ownsRow (w0.heap.size) ty size u k xs := by
    intro ty size k u xs hu h1 h2
    exact owns_apart (owns_kept hu fun q hq hql => keep q hql (h1 q hq)) _ _ h2
  have hap := h.own.ths.apart
  obtain ⟨hap0, hap1⟩ := List.pairwise_cons.1 hap
  have hsvlt : ∀ u ∈ A.map Th.sv, ∀ q, u.ownBlock = some q → q < w5.heap.size := fun u hu q hq => h.own.ths.up u (List.mem_cons_of_mem _ hu) q hq
  have hv3lt : ∀ q, v3.ownBlock = some q → q < w5.heap.size := fun q hq => (hv.lt q hq).2
  have hcvlt : ∀ q, cv.ownBlock = some q → q < w5.heap.size := fun q hq => h.own.up q hq
  have apX : ∀ u : Value, (∀ q, u.ownBlock = some q → q < w5.heap.size) → Ap v2 u → Ap (.slice ad6 (n + 1) cap6) u := by
    intro u hu hau q hq e
    rcases Xlt q hq with h1 | h1
    · exact hau q h1 e
    · have := hu q e; omega
  have hW : (w6.setCell ⟨bx, 1, none⟩ (.slice ad6 (n + 1) cap6)).heap.size = w6.heap.size := by simp
  have hm6 : Below w0.heap.size w0 w6 := below_row (bo_alloc h.bel o) hgr (fun q hq => (htv q hq).1)
  refine ⟨⟨?_, ⟨?_, ?_, ?_, ?_⟩, ?_, ?_⟩, hm6.setCell (by simp; omega) _, ?_, ?_, fun o => ?_, by rw [hW]; omega, hge, ?_⟩
  · exact row h.own.cel (fun q hq e => h.own.apart v2 (by simp) q hq e) (h.ne cv (by simp))
  · show World.ownsRow _ _ _ _ _ (A ++ [_]).length _
    rw [tv_snoc, List.length_append, ← hn]
    exact owns_apart hown _ _ Xbx
  · intro t ht
    rcases List.mem_append.1 ht with h1 | h1
    · exact row (h.own.ths.st t h1) (fun q hq e => hap0 t.sv (List.mem_map_of_mem h1) q e hq) (h.ne t.sv (by simp; exact .inr (.inr ⟨t, h1, rfl⟩)))
    · simp at h1; subst h1
      exact row hv (fun q hq e => hvap v2 (by simp) q e hq) hvbx
  · refine take_ap ?_ ?_
    · exact List.pairwise_cons.2 ⟨fun u hu => apX u (hsvlt u hu) (hap0 u hu), hap1⟩
    · intro u hu
      rcases List.mem_cons.1 hu with rfl | hu
      · exact apX v3 hv3lt (hvap v2 (by simp))
      · exact hvap u (by simp only [List.mem_cons]; exact .inr (.inr hu))
  · intro u hu q hq
    rw [hW]
    rcases List.mem_cons.1 hu with rfl | hu
    · rcases Xlt q hq with h1 | h1
      · have := (htv q h1).2; omega
      · have h2 := (hown.lt q hq).2; exact h2
    · rw [List.map_append] at hu
      rcases List.mem_append.1 hu with h1 | h1
      · have := hsvlt u h1 q hq; omega
      · simp at h1; subst h1
        have := hv3lt q hq; omega
  · intro u hu
    rcases List.mem_cons.1 hu with rfl | hu
    · exact (apX cv hcvlt (fun q hq e => h.own.apart v2 (by simp) q e hq)).symm
    · rw [List.map_append] at hu
      rcases List.mem_append.1 hu with h1 | h1
      · exact h.own.apart u (List.mem_cons_of_mem _ h1)
      · simp at h1; subst h1
        exact hvap cv (by simp)
  · intro q hq; rw [hW]; have := hcvlt q hq; omega
  · rw [World.cell?_setCell_other _ _ _ _ (by simp), World.cell?_of_block (a := ⟨bx, 0, none⟩) kb]; exact h.b0
  · have k1 : w6.cell? ⟨bx, 1, none⟩ = some v2 := (World.cell?_of_block (a := ⟨bx, 1, none⟩) kb).trans h.b1
    simp [k1, go_sem]
  · rw [World.frozen?_setCell, World.frozen?_of_block (a := ⟨bx, o, none⟩) kb]; exact h.bf o
  · intro u hu
    simp only [List.mem_cons, List.map_append, List.mem_append, List.map_cons, List.map_nil, List.not_mem_nil, or_false] at hu
    rcases hu with rfl | rfl | hu | rfl
    · exact h.ne _ (by simp)
    · exact Xbx
    · exact h.ne u (by simp only [List.mem_cons]; exact .inr (.inr hu))
    · exact hvbx


/-- The Steps of these Threads. -/
def oneSt (S : List St) : Prop := ∀ s ∈ S, s = ⟨1, 0, 0⟩ ∨ s = ⟨3, 0, 1⟩
theorem oneSt_ok {S : List St} (h : oneSt S) : S.all okSt = true := by
  rw [List.all_eq_true]
  intro s hs
  rcases h s hs with rfl | rfl <;> decide
theorem oneSt_app {S : List St} (h : oneSt S) : oneSt (S ++ [⟨1, 0, 0⟩, ⟨3, 0, 1⟩]) := by
  intro s hs
  rcases List.mem_append.1 hs with h1 | h1
  · exact h s h1
  · simp at h1; exact h1
end Go.Proofs.Ytdplpkobpoiioaa
