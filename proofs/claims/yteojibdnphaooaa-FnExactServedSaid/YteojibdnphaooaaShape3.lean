/- One element of a row that is owned gets other memory behind it (a row within it that an append made anew). -/
import Derived.Test.YteojibdnphaooaaShape2
namespace Go.Proofs.Yteojibdnphaooaa
open Go.RowKit
set_option maxRecDepth 100000
set_option linter.unusedSimpArgs false
set_option linter.unusedVariables false
section
variable {D : Type} {E : Shp D}
theorem nodup_swap {M : List (List Nat)} (h : M.flatten.Nodup) (k : Nat) (hk : k < M.length) (b' : List Nat) (hb : b'.Nodup) (hd : ∀ y ∈ b', y ∈ M[k] ∨ ∀ m ∈ M, y ∉ m) : (M.set k b').flatten.Nodup := by
  have hp := List.pairwise_flatten.1 h
  refine List.pairwise_flatten.2 ⟨fun m hm => ?_, ?_⟩
  · rcases List.mem_or_eq_of_mem_set hm with hm | rfl
    · exact hp.1 m hm
    · exact hb
  · have hlt := List.pairwise_iff_getElem.1 hp.2
    refine List.pairwise_iff_getElem.2 fun i j hi hj hij x hx y hy e => ?_
    subst e
    have hi' : i < M.length := by simpa using hi
    have hj' : j < M.length := by simpa using hj
    rw [List.getElem_set] at hx hy
    split at hx
    · rename_i e1
      subst e1
      rw [if_neg (by omega)] at hy
      rcases hd x hx with h1 | h1
      · exact hlt k j hk hj' hij x h1 x hy rfl
      · exact h1 _ (List.getElem_mem hj') hy
    · rename_i e1
      split at hy
      · rename_i e2
        subst e2
        rcases hd x hy with h1 | h1
        · exact hlt i k hi' hk hij x hx x h1 rfl
        · exact h1 _ (List.getElem_mem hi') hx
      · exact hlt i j hi' hj' hij x hx x hy rfl
theorem OwX.swap {w : World} {lo hi : Nat} {v : Value} {L : List D} (h : OwX E w lo hi v L) (k : Nat) (hk : k < L.length) :
    ∃ g cap cs b, v = .slice (some ⟨g, 0, none⟩) L.length cap ∧ g < w.heap.size ∧ lo ≤ g ∧ g < hi ∧ g ∉ b ∧ b.Nodup ∧ (∀ y ∈ b, lo ≤ y ∧ y < hi) ∧ E.own w cs L[k] b ∧ (∀ r u, cs[r]? = some u → w.cell? ⟨g, k * E.size + r, none⟩ = some u) ∧ (∀ j, w.frozen? ⟨g, j, none⟩ = false) ∧
      (∀ (w1 : World) (r : Nat) (u : Value) (d' : D) (b' : List Nat) (hi' : Nat), w.heap.size ≤ w1.heap.size → (∀ y, y < w.heap.size → lo ≤ y → y < hi → y ∉ b → w1.heap[y]? = w.heap[y]?) → r < E.size → E.own w1 (cs.set r u) d' b' → b'.Nodup → (∀ y ∈ b', (y ∈ b ∨ hi ≤ y) ∧ y < hi') → hi ≤ hi' → OwX E (w1.setCell ⟨g, k * E.size + r, none⟩ u) lo hi' v (L.set k d')) := by
  obtain ⟨bs, hO, hn, hbd⟩ := h
  have hltw := hO.lt
  obtain ⟨g, cap, cs, b, e1, hgl, hgm, hgb, hsub, hbn, hown, hcell, hfr, _, _, _⟩ := hO.put hn k hk
  obtain ⟨ts, rfl, ho, hE, rfl⟩ := hO
  have hk' : k < ts.length := by simpa using hk
  have hm := List.getElem_mem hk'
  have hlen : ∀ t ∈ ts, t.1.length = E.size := fun t ht => E.rd_len (E.own_rd (hE t ht))
  obtain ⟨g2, cap2, e2, hg, hb0, hgl2, h1, h2, hc, hf⟩ := owns_open ho (by omega)
  have hap := nodup_apart hn
  have hgb2 : g2 ∈ v.ownBlock.toList := by rw [hg]; simp
  have hsub2 : ∀ x ∈ ts[k].2.2, x ∈ ts.flatMap (·.2.2) := fun x hx => List.mem_flatMap.2 ⟨_, hm, hx⟩
  have hgn : g2 ∉ ts[k].2.2 := fun hx => hap g2 hgb2 (hsub2 g2 hx)
  have hoth : ∀ t ∈ ts, g2 ∉ t.2.2 := fun t ht hx => hap g2 hgb2 (List.mem_flatMap.2 ⟨t, ht, hx⟩)
  have hbk : ts[k].2.2.Nodup := by
    have : (ts.flatMap (·.2.2)).Nodup := nodup_right hn
    rw [List.flatMap_def] at this
    exact (List.pairwise_flatten.1 this).1 _ (List.mem_map.2 ⟨_, hm, rfl⟩)
  have hgbd := hbd g2 (List.mem_append_left _ hgb2)
  refine ⟨g2, cap2, ts[k].1, ts[k].2.2, by simpa using e2, hgl2, hgbd.1, hgbd.2, hgn, hbk, fun y hy => hbd y (List.mem_append_right _ (hsub2 y hy)), by simpa using hE _ hm, fun r u hu => hc _ _ ?_, hf, fun w1 r u d' b' hi' hs hkeep hr hown' hn' hb' hhi => ?_⟩
  · have hrs : r < E.size := by rw [← hlen _ hm]; exact (List.getElem?_eq_some_iff.1 hu).1
    rw [flat_at (fun t : List Value × D × List Nat => t.1) E.size ts hlen k hk' r hrs]
    exact hu
  · have hnf : (ts.map (·.2.2)).flatten.Nodup := by
      have : (ts.flatMap (·.2.2)).Nodup := nodup_right hn
      rwa [List.flatMap_def] at this
    have hpw := List.pairwise_iff_getElem.1 (List.pairwise_flatten.1 hnf).2
    have hfar : ∀ y ∈ b', y ≠ g2 := fun y hy e => by
      subst e
      rcases (hb' y hy).1 with h | h
      · exact hgn h
      · omega
    have hown2 : (w1.setCell ⟨g2, k * E.size + r, none⟩ u).ownsRow 0 E.ty E.size v (ts.set k (ts[k].1.set r u, d', b')).length ((ts.set k (ts[k].1.set r u, d', b')).flatMap (·.1)) := by
      have h3 := owns_kept (w' := w1) ho fun q hq _ => by rw [hg] at hq; obtain rfl := Option.some.inj hq; exact hkeep _ hgl2 hgbd.1 hgbd.2 hgn
      have h4 := owns_set h3 hg (k * E.size + r) u
      rw [flat_put (fun t : List Value × D × List Nat => t.1) E.size ts hlen k hk' r hr u (ts[k].1.set r u, d', b') rfl] at h4
      simpa using h4
    refine ⟨v.ownBlock.toList ++ (ts.set k (ts[k].1.set r u, d', b')).flatMap (·.2.2), ⟨ts.set k (ts[k].1.set r u, d', b'), by rw [List.map_set], hown2, fun t ht => ?_, rfl⟩, ?_, ?_⟩
    · obtain ⟨i, hi2, rfl⟩ := List.mem_iff_getElem.1 ht
      have hi3 : i < ts.length := by simpa using hi2
      by_cases e : i = k
      · subst e
        simp only [List.getElem_set_self]
        exact E.own_keep hown' (by simp) fun y hy => Below.heap_setCell w1 _ u y (hfar y hy)
      · rw [List.getElem_set_ne (by omega)]
        have hti := List.getElem_mem hi3
        refine E.own_keep (hE _ hti) (by simpa using hs) fun y hy => ?_
        have hyb := hbd y (List.mem_append_right _ (List.mem_flatMap.2 ⟨_, hti, hy⟩))
        have hyl := hltw y (List.mem_append_right _ (List.mem_flatMap.2 ⟨_, hti, hy⟩))
        rw [Below.heap_setCell w1 _ u y (fun c => hoth _ hti (by have c' : y = g2 := c; rw [← c']; exact hy))]
        refine hkeep y hyl hyb.1 hyb.2 fun hyk => ?_
        rcases Nat.lt_or_gt_of_ne e with h | h
        · exact hpw i k (by simpa using hi3) (by simpa using hk') h y (by simpa using hy) y (by simpa using hyk) rfl
        · exact hpw k i (by simpa using hk') (by simpa using hi3) h y (by simpa using hyk) y (by simpa using hy) rfl
    · refine nodup_mk (opt_nodup _) ?_ ?_
      · rw [List.flatMap_def, List.map_set]
        refine nodup_swap hnf k (by simpa using hk') b' hn' fun y hy => ?_
        rcases (hb' y hy).1 with h | h
        · left; simpa using h
        · right
          intro m hmm hym
          obtain ⟨t, ht, rfl⟩ := List.mem_map.1 hmm
          have := hbd y (List.mem_append_right _ (List.mem_flatMap.2 ⟨t, ht, hym⟩))
          omega
      · intro y hy hy2
        rw [hg] at hy
        simp at hy
        subst hy
        obtain ⟨t, ht, hyt⟩ := List.mem_flatMap.1 hy2
        rcases List.mem_or_eq_of_mem_set ht with ht | rfl
        · exact hoth t ht hyt
        · exact hfar _ hyt rfl
    · intro y hy
      rcases List.mem_append.1 hy with hy | hy
      · have := hbd y (List.mem_append_left _ hy); omega
      · obtain ⟨t, ht, hyt⟩ := List.mem_flatMap.1 hy
        rcases List.mem_or_eq_of_mem_set ht with ht | rfl
        · have := hbd y (List.mem_append_right _ (List.mem_flatMap.2 ⟨t, ht, hyt⟩)); omega
        · have h := hb' y hyt
          refine ⟨?_, h.2⟩
          rcases h.1 with h1 | h1
          · exact (hbd y (List.mem_append_right _ (hsub2 y h1))).1
          · omega
end
end Go.Proofs.Yteojibdnphaooaa
