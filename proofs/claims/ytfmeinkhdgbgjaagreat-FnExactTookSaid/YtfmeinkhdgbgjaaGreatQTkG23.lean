/- Several small texts of one level, one behind the other. -/
import Derived.Test.YtfmeinkhdgbgjaaGreatQTkG19
import Derived.Test.YtfmeinkhdgbgjaaGreatQTkConnSpec4
import Derived.Test.YtfmeinkhdgbgjaaGreatQTkG16
import Derived.Test.YtfmeinkhdgbgjaaGreatQTkG3
import Derived.Test.YtfmeinkhdgbgjaaGreatQTkG2
import Derived.Test.YtfmeinkhdgbgjaaGreatQTkG5
import Derived.Test.YtfmeinkhdgbgjaaGreatQTkG4
import Derived.Handy
import Derived.Deep.RegionHeld3
import Derived.Deep.Cut
import Derived.Deep.DeepCutAuto
import Derived.Deep.QuietTactic
/- A Conn in a block: its windows set, another table, one more Flow. -/
namespace Go.Proofs.YtfmeinkhdgbgjaaGreat
open Go.RowKit
set_option maxRecDepth 100000
set_option linter.unusedSimpArgs false
set_option linter.unusedVariables false
section
variable {D : Type} {E : Shp D}
/-- A row that is owned, opened for an append: what the append leaves, block by block. -/
theorem OwR.grow {w : World} {v : Value} {L : List D} {bs : List Nat} (h : OwR E w v L bs) (hn : bs.Nodup) : ∃ xs, w.ownsRow 0 E.ty E.size v L.length xs ∧
    ∀ (w1 : World) (v' : Value) (cs : List Value) (x : D) (b : List Nat), E.own w cs x b → b.Nodup → (∀ q ∈ b, q ∉ bs) → w1.ownsRow 0 E.ty E.size v' (L.length + 1) (xs ++ cs) → w.grownBy w1 v.ownBlock → (v'.ownBlock = v.ownBlock ∨ v'.ownBlock = some w.heap.size) →
      ∃ bs', OwR E w1 v' (L ++ [x]) bs' ∧ bs'.Nodup ∧ ∀ q ∈ bs', q ∈ bs ∨ q ∈ b ∨ q = w.heap.size := by
  obtain ⟨ts, hL, ho, hE, rfl⟩ := h
  have hlen : L.length = ts.length := by rw [hL]; simp
  refine ⟨ts.flatMap (·.1), by rw [hlen]; exact ho, fun w1 v' cs x b hx hbn hbd ho' hg hat => ?_⟩
  have hap := nodup_apart hn
  have hlt2 := E.own_lt hx
  have hkeep : ∀ x, x < w.heap.size → (∀ g, v.ownBlock = some g → x ≠ g) → w1.heap[x]? = w.heap[x]? := fun x hx hne => hg.block x hx (fun e => by
    cases hv : v.ownBlock with
    | none => rw [hv] at e; simp at e
    | some g => rw [hv] at e; simp at e; exact hne g hv e)
  have hlt1 : ∀ q ∈ ts.flatMap (·.2.2), q < w.heap.size := fun q hq => by
    obtain ⟨t, ht, hq⟩ := List.mem_flatMap.1 hq
    exact E.own_lt (hE t ht) q hq
  refine ⟨v'.ownBlock.toList ++ (ts.flatMap (·.2.2) ++ b), ⟨ts ++ [(cs, x, b)], by simp [hL], by rw [hlen] at ho'; simpa using ho', fun t ht => ?_, by simp⟩, ?_, ?_⟩
  · rcases List.mem_append.1 ht with ht | ht
    · refine E.own_keep (hE t ht) hg.size fun x hx => ?_
      have hx' : x ∈ ts.flatMap (·.2.2) := List.mem_flatMap.2 ⟨t, ht, hx⟩
      exact hkeep x (E.own_lt (hE t ht) x hx) fun g hgv e => hap g (by simp [hgv]) (e ▸ hx')
    · simp at ht
      subst ht
      exact E.own_keep hx hg.size fun y hy => hkeep y (hlt2 y hy) fun g hgv e => hbd y hy (by subst e; simp [hgv])
  · refine nodup_mk (opt_nodup _) (nodup_mk (nodup_right hn) hbn fun y hy hy2 => hbd y hy2 (by simp [hy])) fun y hy hy2 => ?_
    have hyv : v'.ownBlock = some y := by cases hv : v'.ownBlock <;> simp [hv] at hy ⊢; exact hy.symm
    rcases hat with e | e
    · have hyo := e ▸ hyv
      rcases List.mem_append.1 hy2 with h | h
      · exact hap y (by simp [hyo]) h
      · exact hbd y h (by simp [hyo])
    · have hys : y = w.heap.size := by rw [hyv] at e; exact Option.some.inj e
      rcases List.mem_append.1 hy2 with h | h
      · have := hlt1 y h; omega
      · have := hlt2 y h; omega
  · intro q hq
    rcases List.mem_append.1 hq with hq | hq
    · have hyv : v'.ownBlock = some q := by cases hv : v'.ownBlock <;> simp [hv] at hq ⊢; exact hq.symm
      rcases hat with e | e
      · exact .inl (by simp [e ▸ hyv])
      · exact .inr (.inr (by rw [hyv] at e; exact Option.some.inj e))
    · rcases List.mem_append.1 hq with h | h
      · exact .inl (by simp [h])
      · exact .inr (.inl h)
end
theorem CnM.keepSet {w : World} {g : Nat} {bs : List Nat} {p : Addr} (h3 : g ∉ bs) (hp : p.block = g) (v : Value) : ∀ b ∈ bs, (w.setCell p v).heap[b]? = w.heap[b]? := fun b hb => Below.heap_setCell w _ _ b (fun e => h3 (by have e' : b = g := e.trans hp; rw [← e']; exact hb))
theorem CnM.setGive {w : World} {g : Nat} {d : CnD} {bs : List Nat} (h : CnM w g d bs) (n : Int) : CnM (w.setCell ⟨g, 8, none⟩ (.int .i64 n)) g { d with give := n } bs := by
  obtain ⟨⟨ve, vi, vo, vf, h1, h2⟩, h3⟩ := h
  refine ⟨⟨ve, vi, vo, vf, h1.set 8 (.int .i64 n), ?_⟩, h3⟩
  obtain ⟨hx, hn⟩ := h2.keep (w' := w.setCell ⟨g, 8, none⟩ (.int .i64 n)) (by simp) (CnM.keepSet h3 rfl _)
  exact ⟨hx, hn⟩
theorem CnM.lts {w : World} {g : Nat} {d : CnD} {bs : List Nat} (h : CnM w g d bs) : ∀ b ∈ g :: bs, b < w.heap.size := fun b hb => by
  rcases List.mem_cons.1 hb with rfl | hb
  · exact h.lt
  · obtain ⟨⟨_, _, _, _, _, hc⟩, _⟩ := h
    exact hc.lt _ hb
/-- The Flows of a Conn in place, opened for an append. -/
theorem CnM.grow {w : World} {g : Nat} {d : CnD} {bs : List Nat} (h : CnM w g d bs) :
    ∃ ve vi vo a p xs, RowIs w g 32 (cncs d ve vi vo (.slice a d.flows.length p)) ∧ w.ownsRow 0 57 15 (.slice a d.flows.length p) d.flows.length xs ∧ (∀ q, (Value.slice a d.flows.length p).ownBlock = some q → q ∈ bs) ∧
      ∀ (w1 : World) (v' : Value) (f : FlD) (vq : Value) (b : List Nat), flowS.own w (flcs f vq) f b → b.Nodup → (∀ q ∈ b, q ∉ g :: bs) → w1.ownsRow 0 57 15 v' (d.flows.length + 1) (xs ++ flcs f vq) → w.grownBy w1 (Value.slice a d.flows.length p).ownBlock → (v'.ownBlock = (Value.slice a d.flows.length p).ownBlock ∨ v'.ownBlock = some w.heap.size) →
        ∃ bs', CnM (w1.setCell ⟨g, 10, none⟩ v') g { d with flows := d.flows ++ [f] } bs' ∧ ∀ q ∈ bs', q ∈ bs ∨ q ∈ b ∨ q = w.heap.size := by
  have hlts := h.lts
  obtain ⟨⟨ve, vi, vo, vf, hrow, ⟨be, bi, bo, bf, h1, h2, h3, h4, rfl⟩, hn⟩, hng⟩ := h
  obtain ⟨a, p, hvf, _, _⟩ := h4.rd.form
  subst hvf
  have hnf : bf.Nodup := nodup_right hn
  obtain ⟨xs, hxs, hgrow⟩ := h4.grow hnf
  have hvb : ∀ q, (Value.slice a d.flows.length p).ownBlock = some q → q ∈ bf := fun q hq => by
    obtain ⟨ts, _, _, _, rfl⟩ := h4
    simp [hq]
  refine ⟨ve, vi, vo, a, p, xs, hrow, hxs, fun q hq => by simp [hvb q hq], fun w1 v' f vq b hx hbn hbd ho' hg hat => ?_⟩
  obtain ⟨bf', hO, hn', hsub⟩ := hgrow w1 v' (flcs f vq) f b hx hbn (fun q hq hq2 => hbd q hq (by simp [hq2])) ho' hg hat
  have hk1 : ∀ x, x < w.heap.size → x ∉ bf → w1.heap[x]? = w.heap[x]? := fun x hx hx2 => hg.block x hx (fun e => hx2 (hvb x e.symm))
  have hgb : g ∉ bf := fun e => hng (by simp [e])
  have hap : ∀ x ∈ be ++ bi ++ bo, x ∉ bf := nodup_apart hn
  have hgl : g < w.heap.size := hlts g (by simp)
  have hgs : (w1.setCell ⟨g, 10, none⟩ v').heap.size = w1.heap.size := by simp
  have hk2 : ∀ x, x ≠ g → (w1.setCell ⟨g, 10, none⟩ v').heap[x]? = w1.heap[x]? := fun x hx => Below.heap_setCell _ _ _ x (show x ≠ g from hx)
  have hk3 : ∀ x ∈ be ++ bi ++ bo, (w1.setCell ⟨g, 10, none⟩ v').heap[x]? = w.heap[x]? := fun x hx => (hk2 x (fun e => hng (by rw [← e]; exact List.mem_append_left _ hx))).trans (hk1 x (hlts x (by simp only [List.mem_cons, List.mem_append] at hx ⊢; rcases hx with (hx | hx) | hx <;> simp [hx])) (hap x hx))
  have hgf : g ∉ bf' := fun e => by
    rcases hsub g e with e | e | e
    · exact hgb e
    · exact hbd g e (by simp)
    · omega
  have hs : w.heap.size ≤ (w1.setCell ⟨g, 10, none⟩ v').heap.size := by rw [hgs]; exact hg.size
  have hrow1 : RowIs w1 g 32 (cncs d ve vi vo (.slice a d.flows.length p)) := hrow.kept (hk1 g hgl hgb)
  refine ⟨be ++ bi ++ bo ++ bf', ⟨⟨ve, vi, vo, v', hrow1.set 10 v', ⟨be, bi, bo, bf', h1.keep hs (fun b hb => hk3 b (by simp [hb])), h2.keep hs (fun b hb => hk3 b (by simp [hb])), h3.keep hs (fun b hb => hk3 b (by simp [hb])), hO.keep (by simp) (fun b hb => hk2 b (fun e => hgf (e ▸ hb))), rfl⟩, ?_⟩, ?_⟩, ?_⟩
  · refine nodup_mk (nodup_left hn) hn' fun x hx hx2 => ?_
    rcases hsub x hx2 with e | e | e
    · exact hap x hx e
    · exact hbd x e (List.mem_cons_of_mem _ (List.mem_append_left _ hx))
    · have := hlts x (List.mem_cons_of_mem _ (List.mem_append_left _ hx)); omega
  · intro e
    rcases List.mem_append.1 e with e | e
    · exact hng (List.mem_append_left _ e)
    · exact hgf e
  · intro q hq
    rcases List.mem_append.1 hq with e | e
    · exact .inl (List.mem_append_left _ e)
    · rcases hsub q e with e | e | e
      · exact .inl (List.mem_append_right _ e)
      · exact .inr (.inl e)
      · exact .inr (.inr e)
end Go.Proofs.YtfmeinkhdgbgjaaGreat
/- Chapter 17's model in place: taken out of a stream. -/
namespace Go.Proofs.YtfmeinkhdgbgjaaGreat
open Go.RowKit
set_option maxRecDepth 100000
set_option linter.unusedSimpArgs false
set_option linter.unusedVariables false
theorem took_none {c : CnD} {id n : Int} (h : atE c.reg.es id = none) : tookRaw c id n = (c, [], ⟨#[]⟩) := by unfold tookRaw; rw [h]
theorem took_dead {c : CnD} {id n : Int} {k : Nat} (h : atE c.reg.es id = some k) (h1 : k < c.flows.length) (h2 : k < c.reg.es.length) (hd : c.dead = true) : tookRaw c id n = (c, [], ⟨#[]⟩) := by
  unfold tookRaw; rw [h]; simp only [List.getElem?_eq_getElem h1, List.getElem?_eq_getElem h2]; rw [if_pos hd]
theorem outM (t : TuD) (n : Int) (g ot : Nat) (ty : TypeId) (A C : List Value) (w : World) (R : MidIs w g ty A C ot (tucs t)) (hk : okTu t = true) :
    Calls Tryz.prog 152 #[.pointer (some ⟨g, ot, none⟩), .int .i64 n] w fun x w' => x = .returned (.string (outTu t n).2) ∧ MidIs w' g ty A C ot (tucs (outTu t n).1) ∧ Turn g (g + 1) w w' := by
  have hpu := okPp_true (okTu_true hk).1
  have hpw := (okTu_true hk).2.2.1
  have hnk : ¬ okTu t = false := by rw [hk]; decide
  have hv : outTu t n = (⟨⟨t.up.r, t.up.b.extract (outN t n) t.up.b.size, t.up.e, t.up.k⟩, t.dn, t.went + outN t n, t.came⟩, t.up.b.extract 0 (outN t n)) := by unfold outTu; rw [if_neg hnk]
  rw [hv]
  refine (l16OutM t.up.r t.up.b t.up.e t.up.k t.dn.r t.dn.b t.dn.e t.dn.k t.went t.came n g ot ty A C w R (by unfold maxLen; omega) (by omega) hpw.1 hpw.2).mono ?_
  rintro x w' ⟨rfl, hm, ht⟩
  exact ⟨rfl, hm, ht⟩
end Go.Proofs.YtfmeinkhdgbgjaaGreat
