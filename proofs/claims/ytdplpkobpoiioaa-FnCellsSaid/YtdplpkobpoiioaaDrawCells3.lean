/- A Memory that is drawn: a Thread comes behind the others. -/
import Derived.Test.YtdplpkobpoiioaaDrawCells2
namespace Go.Proofs.Ytdplpkobpoiioaa
open Go.RowKit
set_option linter.unusedSimpArgs false
set_option linter.unusedVariables false

theorem DSt.thread {w0 w5 w6 : World} {g B rb bx n : Nat} {m : Mm} (h : DSt w0 w5 g B rb bx m) {v3 : Value} {S : List St} {pos seen won : Int}
    (hv : w5.ownsRow (w0.heap.size + 1) 44 3 v3 S.length (sv S)) (hvap : ∀ u ∈ m.cv :: m.tv :: m.ths.map Th.sv, Ap u v3) (hvbx : v3.ownBlock ≠ some bx)
    {ad6 : Option Addr} {cap6 : Nat} {o : Obj} (hgr : (w5.alloc o).grownBy w6 m.tv.ownBlock)
    (hown : w6.ownsRow (w0.heap.size + 1) 41 4 (.slice ad6 (n + 1) cap6) (n + 1) (tv m.ths ++ [v3, .int .i64 pos, .int .i64 seen, .int .i64 won]))
    (hat : (Value.slice ad6 (n + 1) cap6).ownBlock = m.tv.ownBlock ∨ (Value.slice ad6 (n + 1) cap6).ownBlock = some (w5.alloc o).heap.size) (hn : n = m.ths.length) :
    DSt w0 (w6.setCell ⟨bx, 1, none⟩ (.slice ad6 (n + 1) cap6)) g B rb bx ⟨m.cv, m.cells, .slice ad6 (n + 1) cap6, m.ths ++ [⟨v3, S, pos, seen, won⟩]⟩ := by
  obtain ⟨cv, C, v2, A⟩ := m
  simp only at *
  have hlt := h.lt; have hge := h.ge; have hrb := h.rb; have hgw := h.gw
  have hs6 := hgr.size
  simp at hs6
  have htv : ∀ q, v2.ownBlock = some q → w0.heap.size + 1 ≤ q ∧ q < w5.heap.size := fun q hq => h.own.ths.row.lt q hq
  have hbxne : v2.ownBlock ≠ some bx := h.ne v2 (by simp)
  have keep : ∀ b, b < w5.heap.size → v2.ownBlock ≠ some b → w6.heap[b]? = w5.heap[b]? := fun b hb hne => after_app hgr b hb hne
  have kb := keep bx hlt hbxne
  have krb := keep rb (by omega) (fun e => by have := (htv _ e).1; omega)
  have Xbx : (Value.slice ad6 (n + 1) cap6).ownBlock ≠ some bx := by
    rcases hat with e | e
    · rw [e]; exact hbxne
    · rw [e]; simp; omega
  have Xlt : ∀ q, (Value.slice ad6 (n + 1) cap6).ownBlock = some q → v2.ownBlock = some q ∨ q = w5.heap.size + 1 := by
    intro q hq
    rcases hat with e | e
    · exact .inl (e ▸ hq)
    · rw [e] at hq; simp at hq; exact .inr hq.symm
  have row : ∀ {ty : TypeId} {size k : Nat} {u : Value} {xs : List Value}, w5.ownsRow (w0.heap.size + 1) ty size u k xs → (∀ q, u.ownBlock = some q → v2.ownBlock ≠ some q) → u.ownBlock ≠ some bx → (w6.setCell ⟨bx, 1, none⟩ (.slice ad6 (n + 1) cap6)).ownsRow (w0.heap.size + 1) ty size u k xs := by
    intro ty size k u xs hu h1 h2
    exact owns_apart (owns_kept hu fun q hq hql => keep q hql (h1 q hq)) _ _ h2
  have hap := h.own.ths.apart
  obtain ⟨hap0, hap1⟩ := List.pairwise_cons.1 hap
  have hsvlt : ∀ u ∈ A.map Th.sv, ∀ q, u.ownBlock = some q → q < w5.heap.size := fun u hu q hq => h.own.ths.up u (List.mem_cons_of_mem _ hu) q hq
  have hv3lt : ∀ q, v3.ownBlock = some q → q < w5.heap.size := fun q hq => (hv.lt q hq).2
  have hcvlt : ∀ q, cv.ownBlock = some q → q < w5.heap.size := fun q hq => h.own.up q hq
  have apX : ∀ u : Value, (∀ q, u.ownBlock = some q → q < w5.heap.size) → Ap v2 u → Ap (.slice ad6 (n + 1) cap6) u := by
    intro u hu hau q hq e
    rcases Xlt q hq with h1 | h1
    · exact hau q h1 e
    · have := hu q e; omega
  have hW : (w6.setCell ⟨bx, 1, none⟩ (.slice ad6 (n + 1) cap6)).heap.size = w6.heap.size := by simp
  have hc6 : Cur w6 g B := (h.cur.alloc o).grown hgr (fun q hq => by have := (htv q hq).1; omega)
  have hm6 : Moves g w0 w6 := (h.mov.alloc o).grown hgr (fun q hq => by have := (htv q hq).1; omega)
  refine ⟨⟨?_, ⟨?_, ?_, ?_, ?_⟩, ?_, ?_⟩, hc6.set _ _ (by simp; omega), hm6.setNew _ (by simp; omega) _, ?_, ?_, fun o => ?_, ?_, ?_, fun o => ?_, by rw [hW]; omega, hge, hrb, hgw, ?_⟩
  · exact row h.own.cel (fun q hq e => h.own.apart v2 (by simp) q hq e) (h.ne cv (by simp))
  · show World.ownsRow _ _ _ _ _ (A ++ [_]).length _
    rw [tv_snoc, List.length_append, ← hn]
    exact owns_apart hown _ _ Xbx
  · intro t ht
    rcases List.mem_append.1 ht with h1 | h1
    · exact row (h.own.ths.st t h1) (fun q hq e => hap0 t.sv (List.mem_map_of_mem h1) q e hq) (h.ne t.sv (by simp; exact .inr (.inr ⟨t, h1, rfl⟩)))
    · simp at h1; subst h1
      exact row hv (fun q hq e => hvap v2 (by simp) q e hq) hvbx
  · refine take_ap ?_ ?_
    · exact List.pairwise_cons.2 ⟨fun u hu => apX u (hsvlt u hu) (hap0 u hu), hap1⟩
    · intro u hu
      rcases List.mem_cons.1 hu with rfl | hu
      · exact apX v3 hv3lt (hvap v2 (by simp))
      · exact hvap u (by simp only [List.mem_cons]; exact .inr (.inr hu))
  · intro u hu q hq
    rw [hW]
    rcases List.mem_cons.1 hu with rfl | hu
    · rcases Xlt q hq with h1 | h1
      · have := (htv q h1).2; omega
      · have h2 := (hown.lt q hq).2; exact h2
    · rw [List.map_append] at hu
      rcases List.mem_append.1 hu with h1 | h1
      · have := hsvlt u h1 q hq; omega
      · simp at h1; subst h1
        have := hv3lt q hq; omega
  · intro u hu
    rcases List.mem_cons.1 hu with rfl | hu
    · exact (apX cv hcvlt (fun q hq e => h.own.apart v2 (by simp) q e hq)).symm
    · rw [List.map_append] at hu
      rcases List.mem_append.1 hu with h1 | h1
      · exact h.own.apart u (List.mem_cons_of_mem _ h1)
      · simp at h1; subst h1
        exact hvap cv (by simp)
  · intro q hq; rw [hW]; have := hcvlt q hq; omega
  · rw [World.cell?_setCell_other _ _ _ _ (by simp), World.cell?_of_block (a := ⟨bx, 0, none⟩) kb]; exact h.b0
  · have k1 : w6.cell? ⟨bx, 1, none⟩ = some v2 := (World.cell?_of_block (a := ⟨bx, 1, none⟩) kb).trans h.b1
    simp [k1, go_sem]
  · rw [World.frozen?_setCell, World.frozen?_of_block (a := ⟨bx, o, none⟩) kb]; exact h.bf o
  · rw [cell_other _ _ (by simp; omega), World.cell?_of_block (a := ⟨rb, 0, none⟩) krb]; exact h.r0
  · rw [cell_other _ _ (by simp; omega), World.cell?_of_block (a := ⟨rb, 1, none⟩) krb]; exact h.r1
  · rw [frozen_other _ _ (by simp; omega), World.frozen?_of_block (a := ⟨rb, o, none⟩) krb]; exact h.rf o
  · intro u hu
    simp only [List.mem_cons, List.map_append, List.mem_append, List.map_cons, List.map_nil, List.not_mem_nil, or_false] at hu
    rcases hu with rfl | rfl | hu | rfl
    · exact h.ne _ (by simp)
    · exact Xbx
    · exact h.ne u (by simp only [List.mem_cons]; exact .inr (.inr hu))
    · exact hvbx

/-- While picks are drawn: the Memory in its box, the cursor, the answer's box. -/
structure PSt (w0 w : World) (g B rb bx : Nat) (m : Mm) : Prop where
  own : OwnM w (w0.heap.size + 1) w.heap.size m
  cur : Cur w g B
  mov : Moves g w0 w
  b0 : w.cell? ⟨bx, 0, none⟩ = some m.cv
  b1 : w.cell? ⟨bx, 1, none⟩ = some m.tv
  r0 : w.cell? ⟨rb, 0, none⟩ = some (.slice none 0 0)
  r1 : w.cell? ⟨rb, 1, none⟩ = some (.slice none 0 0)
  rf : ∀ o, w.frozen? ⟨rb, o, none⟩ = false
  lt : bx < w.heap.size
  ge : w0.heap.size < bx
  rb : rb = w0.heap.size
  gw : g < w0.heap.size
  n1 : m.cv.ownBlock ≠ some bx
  n2 : m.tv.ownBlock ≠ some bx
theorem DSt.picks {w0 w : World} {g B rb bx : Nat} {m : Mm} (h : DSt w0 w g B rb bx m) : PSt w0 w g B rb bx m :=
  ⟨h.own, h.cur, h.mov, h.b0, h.b1, h.r0, h.r1, h.rf, h.lt, h.ge, h.rb, h.gw, h.ne _ (by simp), h.ne _ (by simp)⟩
theorem PSt.on {w0 w w' : World} {g B rb bx : Nat} {m : Mm} (h : PSt w0 w g B rb bx m) (hm : Moves g w w') (hc : Cur w' g B) : PSt w0 w' g B rb bx m := by
  have h1 := h.lt; have h2 := h.ge; have h3 := h.rb; have h4 := h.gw; have h5 := hm.size
  refine ⟨(h.own.moves hm (by omega)).hi h5, hc, h.mov.trans hm, ?_, ?_, ?_, ?_, fun o => ?_, by omega, h.ge, h.rb, h.gw, h.n1, h.n2⟩
  · rw [hm.cell bx 0 h1 (by omega)]; exact h.b0
  · rw [hm.cell bx 1 h1 (by omega)]; exact h.b1
  · rw [hm.cell rb 0 (by omega) (by omega)]; exact h.r0
  · rw [hm.cell rb 1 (by omega) (by omega)]; exact h.r1
  · rw [hm.frozen rb o (by omega) (by omega)]; exact h.rf o
theorem PSt.picked {w0 w w' : World} {g B rb bx : Nat} {m m' : Mm} (h : PSt w0 w g B rb bx m) (hcv : m'.cv = m.cv) (htv : m'.tv = m.tv) (ho : OwnM w' (w0.heap.size + 1) w.heap.size m') (ht : Turn (w0.heap.size + 1) w.heap.size w w') (hb : ∀ b, b < w.heap.size → m.cv.ownBlock ≠ some b → m.tv.ownBlock ≠ some b → w'.heap[b]? = w.heap[b]?) : PSt w0 w' g B rb bx m' := by
  have h1 := h.lt; have h2 := h.ge; have h3 := h.rb; have h4 := h.gw; have h5 := ht.size
  have kb := hb bx h1 h.n1 h.n2
  refine ⟨ho.hi h5, h.cur.turn ht (by omega), h.mov.turned ht (by omega), ?_, ?_, ?_, ?_, fun o => ?_, by omega, h.ge, h.rb, h.gw, by rw [hcv]; exact h.n1, by rw [htv]; exact h.n2⟩
  · rw [World.cell?_of_block (a := ⟨bx, 0, none⟩) kb, hcv]; exact h.b0
  · rw [World.cell?_of_block (a := ⟨bx, 1, none⟩) kb, htv]; exact h.b1
  · rw [ht.cell rb 0 (by omega) (by omega)]; exact h.r0
  · rw [ht.cell rb 1 (by omega) (by omega)]; exact h.r1
  · rw [ht.frozen rb o (by omega) (by omega)]; exact h.rf o

theorem okTh_new {S : List St} (h : S.all okSt = true) (hl : S.length ≤ 20) : okTh ⟨S, 0, 0, 0⟩ = true := by
  have h1 : decide (((S.length : Nat) : Int) ≤ 20) = true := decide_eq_true (by omega)
  have h2 : rng 0 0 (S.length : Int) = true := decide_eq_true (by omega)
  have h3 : rng 0 0 1000000 = true := by decide
  simp only [okTh, h1, h2, h3, h, Bool.and_self]
end Go.Proofs.Ytdplpkobpoiioaa
