/- One element of a row that is owned gets other memory behind it, told by the list of the blocks (where the owner's own box may lie among them). -/
import Derived.Test.YteojibdnphaooaaShape3
namespace Go.Proofs.Yteojibdnphaooaa
open Go.RowKit
set_option maxRecDepth 100000
set_option linter.unusedSimpArgs false
set_option linter.unusedVariables false
section
variable {D : Type} {E : Shp D}
theorem OwR.swap {w : World} {v : Value} {L : List D} {bs : List Nat} (h : OwR E w v L bs) (hn : bs.Nodup) (k : Nat) (hk : k < L.length) :
    ∃ g cap cs b, v = .slice (some ⟨g, 0, none⟩) L.length cap ∧ g < w.heap.size ∧ g ∈ bs ∧ g ∉ b ∧ b.Nodup ∧ (∀ y ∈ b, y ∈ bs) ∧ E.own w cs L[k] b ∧ (∀ r u, cs[r]? = some u → w.cell? ⟨g, k * E.size + r, none⟩ = some u) ∧ (∀ j, w.frozen? ⟨g, j, none⟩ = false) ∧
      (∀ (w1 : World) (r : Nat) (u : Value) (d' : D) (b' : List Nat), w.heap.size ≤ w1.heap.size → (∀ y ∈ bs, y ∉ b → w1.heap[y]? = w.heap[y]?) → r < E.size → E.own w1 (cs.set r u) d' b' → b'.Nodup → (∀ y ∈ b', y ∈ b ∨ y ∉ bs) → ∃ bs', OwR E (w1.setCell ⟨g, k * E.size + r, none⟩ u) v (L.set k d') bs' ∧ bs'.Nodup ∧ ∀ y ∈ bs', y ∈ bs ∨ y ∈ b') := by
  have hltw := h.lt
  obtain ⟨ts, rfl, ho, hE, rfl⟩ := h
  have hk' : k < ts.length := by simpa using hk
  have hm := List.getElem_mem hk'
  have hlen : ∀ t ∈ ts, t.1.length = E.size := fun t ht => E.rd_len (E.own_rd (hE t ht))
  obtain ⟨g2, cap2, e2, hg, hb0, hgl2, h1, h2, hc, hf⟩ := owns_open ho (by omega)
  have hap := nodup_apart hn
  have hgb2 : g2 ∈ v.ownBlock.toList := by rw [hg]; simp
  have hsub2 : ∀ x ∈ ts[k].2.2, x ∈ ts.flatMap (·.2.2) := fun x hx => List.mem_flatMap.2 ⟨_, hm, hx⟩
  have hgn : g2 ∉ ts[k].2.2 := fun hx => hap g2 hgb2 (hsub2 g2 hx)
  have hoth : ∀ t ∈ ts, g2 ∉ t.2.2 := fun t ht hx => hap g2 hgb2 (List.mem_flatMap.2 ⟨t, ht, hx⟩)
  have hbk : ts[k].2.2.Nodup := by
    have : (ts.flatMap (·.2.2)).Nodup := nodup_right hn
    rw [List.flatMap_def] at this
    exact (List.pairwise_flatten.1 this).1 _ (List.mem_map.2 ⟨_, hm, rfl⟩)
  refine ⟨g2, cap2, ts[k].1, ts[k].2.2, by simpa using e2, hgl2, List.mem_append_left _ hgb2, hgn, hbk, fun y hy => List.mem_append_right _ (hsub2 y hy), by simpa using hE _ hm, fun r u hu => hc _ _ ?_, hf, fun w1 r u d' b' hs hkeep hr hown' hn' hb' => ?_⟩
  · have hrs : r < E.size := by rw [← hlen _ hm]; exact (List.getElem?_eq_some_iff.1 hu).1
    rw [flat_at (fun t : List Value × D × List Nat => t.1) E.size ts hlen k hk' r hrs]
    exact hu
  · have hnf : (ts.map (·.2.2)).flatten.Nodup := by
      have : (ts.flatMap (·.2.2)).Nodup := nodup_right hn
      rwa [List.flatMap_def] at this
    have hpw := List.pairwise_iff_getElem.1 (List.pairwise_flatten.1 hnf).2
    have hfar : ∀ y ∈ b', y ≠ g2 := fun y hy e => by
      subst e
      rcases hb' y hy with h | h
      · exact hgn h
      · exact h (List.mem_append_left _ hgb2)
    have hown2 : (w1.setCell ⟨g2, k * E.size + r, none⟩ u).ownsRow 0 E.ty E.size v (ts.set k (ts[k].1.set r u, d', b')).length ((ts.set k (ts[k].1.set r u, d', b')).flatMap (·.1)) := by
      have h3 := owns_kept (w' := w1) ho fun q hq _ => by rw [hg] at hq; obtain rfl := Option.some.inj hq; exact hkeep _ (List.mem_append_left _ hgb2) hgn
      have h4 := owns_set h3 hg (k * E.size + r) u
      rw [flat_put (fun t : List Value × D × List Nat => t.1) E.size ts hlen k hk' r hr u (ts[k].1.set r u, d', b') rfl] at h4
      simpa using h4
    refine ⟨v.ownBlock.toList ++ (ts.set k (ts[k].1.set r u, d', b')).flatMap (·.2.2), ⟨ts.set k (ts[k].1.set r u, d', b'), by rw [List.map_set], hown2, fun t ht => ?_, rfl⟩, ?_, ?_⟩
    · obtain ⟨i, hi2, rfl⟩ := List.mem_iff_getElem.1 ht
      have hi3 : i < ts.length := by simpa using hi2
      by_cases e : i = k
      · subst e
        simp only [List.getElem_set_self]
        exact E.own_keep hown' (by simp) fun y hy => Below.heap_setCell w1 _ u y (hfar y hy)
      · rw [List.getElem_set_ne (by omega)]
        have hti := List.getElem_mem hi3
        refine E.own_keep (hE _ hti) (by simpa using hs) fun y hy => ?_
        have hyb : y ∈ v.ownBlock.toList ++ ts.flatMap (·.2.2) := List.mem_append_right _ (List.mem_flatMap.2 ⟨_, hti, hy⟩)
        rw [Below.heap_setCell w1 _ u y (fun c => hoth _ hti (by have c' : y = g2 := c; rw [← c']; exact hy))]
        refine hkeep y hyb fun hyk => ?_
        rcases Nat.lt_or_gt_of_ne e with h | h
        · exact hpw i k (by simpa using hi3) (by simpa using hk') h y (by simpa using hy) y (by simpa using hyk) rfl
        · exact hpw k i (by simpa using hk') (by simpa using hi3) h y (by simpa using hyk) y (by simpa using hy) rfl
    · refine nodup_mk (opt_nodup _) ?_ ?_
      · rw [List.flatMap_def, List.map_set]
        refine nodup_swap hnf k (by simpa using hk') b' hn' fun y hy => ?_
        rcases hb' y hy with h | h
        · left; simpa using h
        · right
          intro m hmm hym
          obtain ⟨t, ht, rfl⟩ := List.mem_map.1 hmm
          exact h (List.mem_append_right _ (List.mem_flatMap.2 ⟨t, ht, hym⟩))
      · intro y hy hy2
        rw [hg] at hy
        simp at hy
        subst hy
        obtain ⟨t, ht, hyt⟩ := List.mem_flatMap.1 hy2
        rcases List.mem_or_eq_of_mem_set ht with ht | rfl
        · exact hoth t ht hyt
        · exact hfar _ hyt rfl
    · intro y hy
      rcases List.mem_append.1 hy with hy | hy
      · exact .inl (List.mem_append_left _ hy)
      · obtain ⟨t, ht, hyt⟩ := List.mem_flatMap.1 hy
        rcases List.mem_or_eq_of_mem_set ht with ht | rfl
        · exact .inl (List.mem_append_right _ (List.mem_flatMap.2 ⟨t, ht, hyt⟩))
        · exact .inr hyt
end
end Go.Proofs.Yteojibdnphaooaa
