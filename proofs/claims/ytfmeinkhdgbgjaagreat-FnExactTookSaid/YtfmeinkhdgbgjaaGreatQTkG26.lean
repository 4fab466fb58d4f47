/- Several small texts of one level, one behind the other. -/
import Derived.Test.YtfmeinkhdgbgjaaGreatQTkG16
import Derived.Test.YtfmeinkhdgbgjaaGreatQTkG3
import Derived.Test.YtfmeinkhdgbgjaaGreatQTkG2
import Derived.Test.YtfmeinkhdgbgjaaGreatQTkConnSpec4
import Derived.Test.YtfmeinkhdgbgjaaGreatQTkG5
import Derived.Test.YtfmeinkhdgbgjaaGreatQTkG4
import Derived.Handy
import Derived.Deep.RegionHeld3
import Derived.Deep.Cut
import Derived.Deep.DeepCutAuto
import Derived.Deep.QuietTactic
import Derived.Test.YtfmeinkhdgbgjaaGreatQTkG25
import Derived.Test.YtfmeinkhdgbgjaaGreatQTkG24
import Derived.Test.YtfmeinkhdgbgjaaGreatQTkG19
import Derived.Test.YtfmeinkhdgbgjaaGreatQTkG23
import Derived.Deep.DeepMust
/- Chapter 17's model as it is called: given. -/
namespace Go.Proofs.YtfmeinkhdgbgjaaGreat
open Go.RowKit
set_option maxRecDepth 100000
set_option linter.unusedSimpArgs false
set_option linter.unusedVariables false
/-- What a face answers: a Conn in memory from lo on, and frames in memory apart from it. -/
def FaceF (lo : Nat) (r : CnD × List Fr) (v vfr : Value) (w : World) : Prop := ∃ ve vi vo vf bs, v = cnv r.1 ve vi vo vf ∧ CnOw w bs r.1 ve vi vo vf ∧ (∀ b ∈ bs, lo ≤ b) ∧ w.ownsRow lo 34 4 vfr r.2.length (fr r.2) ∧ ∀ q, vfr.ownBlock = some q → q ∉ bs
/-- Stands a Conn in a box, all of whose blocks are new, it may be handed back. -/
theorem CnM.handed {w : World} {g lo : Nat} {d : CnD} {bs : List Nat} (h : CnM w g d bs) (hb : ∀ b ∈ bs, lo ≤ b) : ∃ ve vi vo vf, RowIs w g 32 (cncs d ve vi vo vf) ∧ NewC lo d (cnv d ve vi vo vf) w ∧ CnOw w bs d ve vi vo vf := by
  obtain ⟨⟨ve, vi, vo, vf, h1, h2⟩, h3⟩ := h
  exact ⟨ve, vi, vo, vf, h1, ⟨ve, vi, vo, vf, bs, rfl, h2, hb⟩, h2⟩
end Go.Proofs.YtfmeinkhdgbgjaaGreat
/- Chapter 17's model in place: a frame of data. -/
namespace Go.Proofs.YtfmeinkhdgbgjaaGreat
open Go.RowKit
set_option maxRecDepth 100000
set_option linter.unusedSimpArgs false
set_option linter.unusedVariables false
theorem grant_short (c : CnD) (id n : Int) : (grantD c id n).2.length ≤ 1 := by
  unfold grantD
  repeat' split
  all_goals simp
/-- A Flow's Get set in place. -/
theorem CnM.flGet {w : World} {g : Nat} {d : CnD} {bs : List Nat} (h : CnM w g d bs) (k : Nat) (hk : k < d.flows.length) :
    ∃ gf ve vi vo cap, RowIs w g 32 (cncs d ve vi vo (.slice (some ⟨gf, 0, none⟩) d.flows.length cap)) ∧ gf ∈ bs ∧ gf < w.heap.size ∧ g ≠ gf ∧ w.cell? ⟨gf, k * 15 + 1, none⟩ = some (.int .i64 d.flows[k].get) ∧ w.frozen? ⟨gf, k * 15 + 1, none⟩ = false ∧
      ∀ n : Int, CnM (w.setCell ⟨gf, k * 15 + 1, none⟩ (.int .i64 n)) g { d with flows := d.flows.set k { d.flows[k] with get := n } } bs ∧ TurnB (g :: bs) w (w.setCell ⟨gf, k * 15 + 1, none⟩ (.int .i64 n)) := by
  obtain ⟨gf, A, C, ve, vi, vo, cap, v0, hrow, hgm, hgfl, hgg, hmid, s1, s2, _, hput⟩ := h.flw k hk
  refine ⟨gf, ve, vi, vo, cap, hrow, hgm, hgfl, hgg, MidIs.cell (j := 1) hmid rfl, MidIs.frozen hmid _, fun n => ⟨?_, (TurnB.refl _ _).set _ _ (by simp [hgm])⟩⟩
  have hm2 := MidIs.set hmid 1 (.int .i64 n) (by simp)
  exact hput _ { d.flows[k] with get := n } rfl s1 s2 hm2 ((TurnB.refl _ _).set _ _ (by simp))
end Go.Proofs.YtfmeinkhdgbgjaaGreat
/- The program's link in a block: one more Flow, other Flows, the last frame told marked as the end. -/
namespace Go.Proofs.YtfmeinkhdgbgjaaGreat
open Go.RowKit
set_option maxRecDepth 100000
set_option linter.unusedSimpArgs false
set_option linter.unusedVariables false
section
variable {w w' W W' : World} {lo g : Nat} {d d' : CnD} {L L' : List Fr} {bs bx by_ vb : List Nat}
theorem Lnk.wide (h : Lnk lo g w bs W d L bx) : Lnk lo g w (bs ++ vb) W d L bx :=
  ⟨h.m, h.t.wide (fun x hx => by rcases List.mem_cons.1 hx with e | e <;> simp [e]), fun b hb => (h.n b hb).imp (List.mem_append_left _) id⟩
/-- A row apart from the link stays so behind a step. -/
theorem Lnk.apart {q : Nat} (h : Lnk lo g w bs W d L bx) (hq : q < w.heap.size) (hn : q ∉ g :: bs) : q ∉ g :: bx := fun hx => by
  rcases List.mem_cons.1 hx with e | e
  · exact hn (by simp [e])
  · rcases h.n q e with e | e
    · exact hn (by simp [e])
    · omega
theorem LkM.grow (h : LkM w lo g d L bs) :
    ∃ ve vi vo a p tv xs, RowIs w g 84 (lkcs d ve vi vo (.slice a d.flows.length p) tv) ∧ w.ownsRow 0 57 15 (.slice a d.flows.length p) d.flows.length xs ∧ (∀ q, (Value.slice a d.flows.length p).ownBlock = some q → q ∈ bs) ∧
      ∀ (w1 : World) (v' : Value) (f : FlD) (vq : Value) (b : List Nat), flowS.own w (flcs f vq) f b → b.Nodup → (∀ q ∈ b, q ∉ g :: bs ∧ lo ≤ q) → w1.ownsRow 0 57 15 v' (d.flows.length + 1) (xs ++ flcs f vq) → w.grownBy w1 (Value.slice a d.flows.length p).ownBlock → (v'.ownBlock = (Value.slice a d.flows.length p).ownBlock ∨ v'.ownBlock = some w.heap.size) →
        ∃ bx, Lnk lo g w (bs ++ b) (w1.setCell ⟨g, 10, none⟩ v') { d with flows := d.flows ++ [f] } L bx := by
  have hlts := h.lt
  have hbs0 := h.base
  obtain ⟨⟨ve, vi, vo, vf, tv, cb, hrow, ⟨⟨be, bi, bo, bf, h1, h2, h3, h4, rfl⟩, hn⟩, h5, h6, h7⟩, hl, hlo, hng, hbs⟩ := h
  obtain ⟨a, p, hvf, _, _⟩ := h4.rd.form
  subst hvf
  have hnf : bf.Nodup := nodup_right hn
  obtain ⟨xs, hxs, hgrow⟩ := h4.grow hnf
  have hvb : ∀ q, (Value.slice a d.flows.length p).ownBlock = some q → q ∈ bf := fun q hq => by
    obtain ⟨ts, _, _, _, rfl⟩ := h4
    simp [hq]
  refine ⟨ve, vi, vo, a, p, tv, xs, hrow, hxs, fun q hq => h6 q (by simp [hvb q hq]), fun w1 v' f vq b hx hbn hbd ho' hg hat => ?_⟩
  obtain ⟨bf', hO, hn', hsub⟩ := hgrow w1 v' (flcs f vq) f b hx hbn (fun q hq hq2 => (hbd q hq).1 (by simp [h6 q (by simp [hq2])])) ho' hg hat
  have hk1 : ∀ x, x < w.heap.size → x ∉ bf → w1.heap[x]? = w.heap[x]? := fun x hx hx2 => hg.block x hx (fun e => hx2 (hvb x e.symm))
  have hgb : g ∉ bf := fun e => hng (h6 g (by simp [e]))
  have hap : ∀ x ∈ be ++ bi ++ bo, x ∉ bf := nodup_apart hn
  have hgl : g < w.heap.size := hl g (by simp)
  have hcl : ∀ x ∈ be ++ bi ++ bo ++ bf, x < w.heap.size := fun x hx => hl x (by simp [h6 x hx])
  have hgs : (w1.setCell ⟨g, 10, none⟩ v').heap.size = w1.heap.size := by simp
  have hk2 : ∀ x, x ≠ g → (w1.setCell ⟨g, 10, none⟩ v').heap[x]? = w1.heap[x]? := fun x hx => Below.heap_setCell _ _ _ x (show x ≠ g from hx)
  have hk3 : ∀ x ∈ be ++ bi ++ bo, (w1.setCell ⟨g, 10, none⟩ v').heap[x]? = w.heap[x]? := fun x hx => (hk2 x (fun e => hng (by rw [← e]; exact h6 x (List.mem_append_left _ hx)))).trans (hk1 x (hcl x (List.mem_append_left _ hx)) (hap x hx))
  have hgf : g ∉ bf' := fun e => by
    rcases hsub g e with e | e | e
    · exact hgb e
    · exact (hbd g e).1 (by simp)
    · omega
  have hg2 := hg.size
  have hs : w.heap.size ≤ (w1.setCell ⟨g, 10, none⟩ v').heap.size := by rw [hgs]; omega
  have hrow1 : RowIs w1 g 84 (lkcs d ve vi vo (.slice a d.flows.length p) tv) := hrow.kept (hk1 g hgl hgb)
  have hbl : ∀ q ∈ b, q < w.heap.size := fun q hq => flowS.own_lt hx q hq
  refine ⟨bs ++ bf', ⟨⟨ve, vi, vo, v', tv, be ++ bi ++ bo ++ bf', hrow1.set 10 v', ⟨⟨be, bi, bo, bf', h1.keep hs (fun b hb => hk3 b (by simp [hb])), h2.keep hs (fun b hb => hk3 b (by simp [hb])), h3.keep hs (fun b hb => hk3 b (by simp [hb])), hO.keep (by simp) (fun b hb => hk2 b (fun e => hgf (e ▸ hb))), rfl⟩, ?_⟩, ?_, ?_, ?_⟩, ?_, ?_, ?_, ?_⟩, ?_, ?_⟩
  · refine nodup_mk (nodup_left hn) hn' fun x hx hx2 => ?_
    rcases hsub x hx2 with e | e | e
    · exact hap x hx e
    · exact (hbd x e).1 (List.mem_cons_of_mem _ (h6 x (List.mem_append_left _ hx)))
    · have := hcl x (List.mem_append_left _ hx); omega
  · exact owns_kept h5 (fun q hq hq2 => (hk2 q (fun e => hng (e ▸ (h7 q hq).1))).trans (hk1 q hq2 (fun e => (h7 q hq).2 (List.mem_append_right _ e))))
  · intro x hx
    rcases List.mem_append.1 hx with e | e
    · exact List.mem_append_left _ (h6 x (List.mem_append_left _ e))
    · exact List.mem_append_right _ e
  · intro q hq
    refine ⟨List.mem_append_left _ (h7 q hq).1, fun hx => ?_⟩
    rcases List.mem_append.1 hx with e | e
    · exact (h7 q hq).2 (List.mem_append_left _ e)
    · rcases hsub q e with e | e | e
      · exact (h7 q hq).2 (List.mem_append_right _ e)
      · exact (hbd q e).1 (by simp [(h7 q hq).1])
      · have := hl q (by simp [(h7 q hq).1]); omega
  · intro x hx
    rw [hgs]
    rcases List.mem_cons.1 hx with e | e
    · omega
    · rcases List.mem_append.1 e with e | e
      · have := hl x (by simp [e]); omega
      · exact hO.lt x e
  · intro x hx
    rcases List.mem_append.1 hx with e | e
    · exact hlo x e
    · rcases hsub x e with e | e | e
      · exact hlo x (h6 x (by simp [e]))
      · exact (hbd x e).2
      · omega
  · intro hx
    rcases List.mem_append.1 hx with e | e
    · exact hng e
    · exact hgf e
  · rw [hgs]; omega
  · refine ⟨hg.os, hg.tape, hg.output, hs, fun k hk hk2' => ?_⟩
    exact (hk2 k (fun e => hk2' (by simp [e]))).trans (hk1 k hk (fun e => hk2' (by simp [h6 k (by simp [e])])))
  · intro x hx
    rcases List.mem_append.1 hx with e | e
    · exact .inl (by simp [e])
    · rcases hsub x e with e | e | e
      · exact .inl (by simp [h6 x (by simp [e])])
      · exact .inl (by simp [e])
      · exact .inr (by omega)
end
end Go.Proofs.YtfmeinkhdgbgjaaGreat
