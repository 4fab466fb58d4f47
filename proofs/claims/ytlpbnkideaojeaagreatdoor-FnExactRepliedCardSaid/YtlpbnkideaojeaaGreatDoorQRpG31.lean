/- Lemmas. -/
import Derived.Test.YtlpbnkideaojeaaGreatDoorQRpG30
namespace Go.Proofs.YtlpbnkideaojeaaGreatDoor
open Go.RowKit
set_option maxRecDepth 100000
set_option linter.unusedSimpArgs false
set_option linter.unusedVariables false
def Cc (lo : Nat) (r : aH × List Fr) (v kG : Value) (w : World) : Prop := ∃ ve vi vo vf bs, v = bH r.1 ve vi vo vf ∧ dY w bs r.1 ve vi vo vf ∧ (∀ b ∈ bs, lo ≤ b) ∧ w.ownsRow lo 72 4 kG r.2.length (fr r.2) ∧ ∀ q, kG.ownBlock = some q → q ∉ bs
theorem cZ.handed {w : World} {g lo : Nat} {d : aH} {bs : List Nat} (h : cZ w g d bs) (hb : ∀ b ∈ bs, lo ≤ b) : ∃ ve vi vo vf, aj w g 40 (vZ d ve vi vo vf) ∧ FD lo d (bH d ve vi vo vf) w ∧ dY w bs d ve vi vo vf := by
 obtain ⟨⟨ve, vi, vo, vf, h1, h2⟩, h3⟩ := h
 exact ⟨ve, vi, vo, vf, h1, ⟨ve, vi, vo, vf, bs, rfl, h2, hb⟩, h2⟩
theorem cZ.Da {w : World} {g : Nat} {d : aH} {bs : List Nat} (h : cZ w g d bs) :
  ∃ (A C : List Value) (bo : List Nat), jL w g 40 A C 5 (fun k => k ∈ bo ∨ w.heap.size ≤ k) d.au d.outT ∧ (∀ x ∈ bo, x ∈ bs) ∧ (∀ f ∈ d.outT, f.fine) ∧
   ∀ w' T', jL w' g 40 A C 5 (fun k => k ∈ bo ∨ w.heap.size ≤ k) d.au T' → (∀ f ∈ T', f.fine) → aG [g] w w' → ∃ bs', cZ w' g { d with outT := T' } bs' ∧ gu w bs bs' := by
 obtain ⟨⟨ve, vi, vo, vf, hrow, ⟨be, bi, bo, bf, h1, h2, h3, h4, rfl⟩, hn⟩, dJ⟩ := h
 have hfin := eu h3.rd
 obtain ⟨ho, rfl⟩ := F7 h3
 obtain ⟨ao, po, Tv, _, _⟩ := bW ho
 subst Tv
 have hmem : ∀ (v : Value) x, x ∈ v.ownBlock.toList → v.ownBlock = some x := fun v x hx => by cases hv : v.ownBlock <;> simp [hv] at hx ⊢; exact hx.symm
 refine ⟨[.int .i64 d.reg.lim, .int .i64 d.reg.top, ve, .int .i64 d.inr, vi], [.int .i64 d.get, .int .i64 d.give, .int .i64 d.first, vf, .bool d.away, .bool d.dead], (Value.slice ao d.outT.length po).ownBlock.toList, ⟨ao, po, ⟨hrow, rfl⟩, ho, fun e => dJ (by simp [e]), fun k hk => .inl (by simp [hk])⟩, fun x hx => by simp only [List.mem_append]; exact .inl (.inr hx), hfin, fun w' T' ht hf' hT => ?_⟩
 obtain ⟨a', p', hm', ho', hne', hok'⟩ := ht.ex
 have hlt : ∀ x ∈ be ++ bi ++ bf, x < w.heap.size := fun x hx => by
  simp only [List.mem_append] at hx
  rcases hx with (hx | hx) | hx
  ·exact h1.lt x hx
  ·exact h2.lt x hx
  ·exact h4.lt x hx
 have hgn : ∀ x ∈ be ++ bi ++ bf, x ≠ g := fun x hx e => dJ (by
  rw [← e]
  simp only [List.mem_append] at hx ⊢
  rcases hx with (hx | hx) | hx
  ·exact .inl (.inl (.inl hx))
  ·exact .inl (.inl (.inr hx))
  ·exact .inr hx)
 have hk : ∀ x ∈ be ++ bi ++ bf, w'.heap[x]? = w.heap[x]? := fun x hx => hT.block x (hlt x hx) (by simpa using hgn x hx)
 have hn' : (be ++ bi ++ bf).Nodup := by
  have : List.Sublist (be ++ bi ++ bf) (be ++ bi ++ (Value.slice ao d.outT.length po).ownBlock.toList ++ bf) := by
   rw [List.append_assoc (be ++ bi)]
   exact (List.Sublist.refl (be ++ bi)).append (List.sublist_append_right _ _)
  exact this.nodup hn
 have ql : ∀ x ∈ be ++ bi ++ bf, x ∉ (Value.slice ao d.outT.length po).ownBlock.toList := fun x hx hx2 => by
  have hn1 := zM hn
  simp only [List.mem_append] at hx
  rcases hx with hx | hx
  ·exact oG hn1 x (List.mem_append.2 hx) hx2
  ·exact oG hn x (List.mem_append_right _ hx2) hx
 have Lv : ∀ x ∈ be ++ bi ++ bf, x ∉ (Value.slice a' T'.length p').ownBlock.toList := fun x hx hx2 => by
  rcases hok' x (hmem _ x hx2) with e | e
  ·exact ql x hx e
  ·have := hlt x hx; omega
 refine ⟨be ++ bi ++ (Value.slice a' T'.length p').ownBlock.toList ++ bf, ⟨⟨ve, vi, .slice a' T'.length p', vf, hm'.row, ⟨be, bi, (Value.slice a' T'.length p').ownBlock.toList, bf, h1.keep hT.size (fun x hx => hk x (by simp [hx])), h2.keep hT.size (fun x hx => hk x (by simp [hx])), zN ho' hf', h4.keep hT.size (fun x hx => hk x (by simp [hx])), rfl⟩, ?_⟩, ?_⟩, ?_⟩
 ·refine jv (jv (zM hn') (uh _) fun x hx hx2 => Lv x (List.mem_append_left _ hx) hx2) (oH hn') fun x hx hx2 => ?_
  rcases List.mem_append.1 hx with e | e
  ·exact oG hn' x e hx2
  ·exact Lv x (List.mem_append_right _ hx2) e
 ·intro hx
  simp only [List.mem_append] at hx dJ
  rcases hx with ((hx | hx) | hx) | hx
  ·exact dJ (.inl (.inl (.inl hx)))
  ·exact dJ (.inl (.inl (.inr hx)))
  ·exact hne' (hmem _ g hx)
  ·exact dJ (.inr hx)
 ·intro x hx
  simp only [List.mem_append] at hx ⊢
  rcases hx with ((hx | hx) | hx) | hx
  ·exact .inl (.inl (.inl (.inl hx)))
  ·exact .inl (.inl (.inl (.inr hx)))
  ·rcases hok' x (hmem _ x hx) with e | e
   ·exact .inl (.inl (.inr e))
   ·exact .inr e
  ·exact .inl (.inr hx)
theorem cZ.Tw {w : World} {g : Nat} {d : aH} {bs : List Nat} (h : cZ w g d bs) (k : Nat) (hk : k < d.flows.length) :
  ∃ gf ve vi vo cap, aj w g 40 (vZ d ve vi vo (.slice (some ⟨gf, 0, none⟩) d.flows.length cap)) ∧ gf ∈ bs ∧ gf < w.heap.size ∧ g ≠ gf ∧ w.cell? ⟨gf, k * 15 + 10, none⟩ = some (.bool d.flows[k].tun.dn.e) ∧ w.frozen? ⟨gf, k * 15 + 10, none⟩ = false ∧
   cZ (w.setCell ⟨gf, k * 15 + 10, none⟩ (.bool true)) g { d with flows := d.flows.set k (rJ d.flows[k]) } bs ∧ aG (g :: bs) w (w.setCell ⟨gf, k * 15 + 10, none⟩ (.bool true)) := by
 obtain ⟨gf, A, C, ve, vi, vo, cap, v0, hrow, hgm, CZ, hgg, hmid, s1, s2, _, hput⟩ := h.xY k hk
 refine ⟨gf, ve, vi, vo, cap, hrow, hgm, CZ, hgg, bL.cell (j := 10) hmid rfl, bL.frozen hmid _, ?_, (aG.refl _ _).set _ _ (by simp [hgm])⟩
 have hm2 := bL.set hmid 10 (.bool true) (by simp)
 exact hput _ (rJ d.flows[k]) rfl s1 s2 hm2 ((aG.refl _ _).set _ _ (by simp))
theorem Lx (d : aV) : eU d = 14 + 2 * d.fds.length := by unfold eU; rw [oI]; omega
theorem Tx (L : List aV) : (lM L : Int) ≤ 14 * kH L := by
 unfold lM kH
 induction L with
 | nil => decide
 | cons x L ih =>
  have e1 : dF eU (x :: L) = eU x + dF eU L := rfl
  have e2 : eZ gM (x :: L) = gM x + eZ gM L := rfl
  have e3 := Lx x
  have e4 : (x.fds.length : Int) ≤ gM x := by unfold gM rO; have := zO x.fds; omega
  rw [e1, e2, List.length_cons]
  omega
theorem Rp (d : aH) (h : nN d ≤ 1048576) : 1 + lG d ≤ 1000000000 := by
 unfold nN nQ nR at h
 unfold lG
 have h1 := LA d.reg.es
 have h2 := oI d.inT
 have h3 := oI d.outT
 have h4 := Tx d.flows
 have h5 := zO d.inT
 have h6 := zO d.outT
 have h7 : 0 ≤ kH d.flows := LB _
 omega
theorem Tz (L : List aV) (h : ∀ f ∈ L, f.fds.length ≤ 20) : lM L ≤ 54 * L.length := by
 unfold lM
 induction L with
 | nil => decide
 | cons x L ih =>
  have e1 : dF eU (x :: L) = eU x + dF eU L := rfl
  have e3 := Lx x
  have e4 := h x (by simp)
  have e5 := ih (fun f hf => h f (by simp [hf]))
  rw [e1, List.length_cons]
  omega
theorem TA (d : aH) (h : dV d = true) : lG d ≤ 100000 := by
 obtain ⟨hl, mG⟩ := rH h
 have h1 := LA d.reg.es
 have h2 := oI d.inT
 have h3 := oI d.outT
 have h4 := Tz d.flows (fun f hf => by
  have := (zu h hf).2.2.2
  unfold dZ at this
  simp only [Bool.and_eq_true, decide_eq_true_eq] at this
  exact this.2)
 have h5 := Db (jI.1 h).2.1
 have h6 := Db (jI.1 h).2.2.1
 unfold lG
 omega
theorem TB : lG vP ≤ 100000 := by decide
theorem QX (c : aH) (id k : Int) : (iU c id k).2.length ≤ 4 := by
 unfold iU
 split
 ·exact Nat.zero_le _
 unfold jG
 split
 ·exact Nat.zero_le _
 split
 ·unfold rP
  split
  ·exact Nat.zero_le _
  split
  ·exact (by decide : 1 ≤ 4)
  ·exact (by decide : 1 ≤ 4)
 ·exact Nat.zero_le _
theorem QW (c : aH) (id k : Int) : lG (iU c id k).1 ≤ 100000 := by
 unfold iU
 split
 ·exact TB
 rename_i h
 exact TA _ (TD (by simpa using h)).1
section
variable {w w' W W' : World} {lo g : Nat} {d d' : aH} {L L' : List Fr} {bs bx wh vb : List Nat}
theorem fZ.wide (h : fZ lo g w bs W d L bx) : fZ lo g w (bs ++ vb) W d L bx :=
 ⟨h.m, h.t.wide (fun x hx => by rcases List.mem_cons.1 hx with e | e <;> simp [e]), fun b hb => (h.n b hb).imp (List.mem_append_left _) id⟩
theorem fZ.apart {q : Nat} (h : fZ lo g w bs W d L bx) (hq : q < w.heap.size) (hn : q ∉ g :: bs) : q ∉ g :: bx := fun hx => by
 rcases List.mem_cons.1 hx with e | e
 ·exact hn (by simp [e])
 ·rcases h.n q e with e | e
  ·exact hn (by simp [e])
  ·omega
theorem fO.grow (h : fO w lo g d L bs) :
  ∃ ve vi vo a p tv xs, aj w g 61 (lJ d ve vi vo (.slice a d.flows.length p) tv) ∧ w.ownsRow 0 92 15 (.slice a d.flows.length p) d.flows.length xs ∧ (∀ q, (Value.slice a d.flows.length p).ownBlock = some q → q ∈ bs) ∧
   ∀ (w1 : World) (v' : Value) (f : aV) (vq : Value) (b : List Nat), bF.own w (nS f vq) f b → b.Nodup → (∀ q ∈ b, q ∉ g :: bs ∧ lo ≤ q) → w1.ownsRow 0 92 15 v' (d.flows.length + 1) (xs ++ nS f vq) → w.grownBy w1 (Value.slice a d.flows.length p).ownBlock → (v'.ownBlock = (Value.slice a d.flows.length p).ownBlock ∨ v'.ownBlock = some w.heap.size) →
    ∃ bx, fZ lo g w (bs ++ b) (w1.setCell ⟨g, 10, none⟩ v') { d with flows := d.flows ++ [f] } L bx := by
 have hlts := h.lt
 have hbs0 := h.base
 obtain ⟨⟨ve, vi, vo, vf, tv, cb, hrow, ⟨⟨be, bi, bo, bf, h1, h2, h3, h4, rfl⟩, hn⟩, h5, h6, h7⟩, hl, hlo, dJ, hbs⟩ := h
 obtain ⟨a, p, hvf, _, _⟩ := h4.rd.form
 subst hvf
 have hnf : bf.Nodup := oH hn
 obtain ⟨xs, hxs, hgrow⟩ := h4.grow hnf
 have hvb : ∀ q, (Value.slice a d.flows.length p).ownBlock = some q → q ∈ bf := fun q hq => by
  obtain ⟨ts, _, _, _, rfl⟩ := h4
  simp [hq]
 refine ⟨ve, vi, vo, a, p, tv, xs, hrow, hxs, fun q hq => h6 q (by simp [hvb q hq]), fun w1 v' f vq b hx hbn hbd ho' hg hat => ?_⟩
 obtain ⟨uj, hO, hn', hsub⟩ := hgrow w1 v' (nS f vq) f b hx hbn (fun q hq hq2 => (hbd q hq).1 (by simp [h6 q (by simp [hq2])])) ho' hg hat
 have hk1 : ∀ x, x < w.heap.size → x ∉ bf → w1.heap[x]? = w.heap[x]? := fun x hx hx2 => hg.block x hx (fun e => hx2 (hvb x e.symm))
 have hgb : g ∉ bf := fun e => dJ (h6 g (by simp [e]))
 have hap : ∀ x ∈ be ++ bi ++ bo, x ∉ bf := oG hn
 have hgl : g < w.heap.size := hl g (by simp)
 have hcl : ∀ x ∈ be ++ bi ++ bo ++ bf, x < w.heap.size := fun x hx => hl x (by simp [h6 x hx])
 have hgs : (w1.setCell ⟨g, 10, none⟩ v').heap.size = w1.heap.size := by simp
 have hk2 : ∀ x, x ≠ g → (w1.setCell ⟨g, 10, none⟩ v').heap[x]? = w1.heap[x]? := fun x hx => Below.heap_setCell _ _ _ x (show x ≠ g from hx)
 have hk3 : ∀ x ∈ be ++ bi ++ bo, (w1.setCell ⟨g, 10, none⟩ v').heap[x]? = w.heap[x]? := fun x hx => (hk2 x (fun e => dJ (by rw [← e]; exact h6 x (List.mem_append_left _ hx)))).trans (hk1 x (hcl x (List.mem_append_left _ hx)) (hap x hx))
 have hgf : g ∉ uj := fun e => by
  rcases hsub g e with e | e | e
  ·exact hgb e
  ·exact (hbd g e).1 (by simp)
  ·omega
 have hg2 := hg.size
 have hs : w.heap.size ≤ (w1.setCell ⟨g, 10, none⟩ v').heap.size := by rw [hgs]; omega
 have F8 : aj w1 g 61 (lJ d ve vi vo (.slice a d.flows.length p) tv) := hrow.kept (hk1 g hgl hgb)
 have hbl : ∀ q ∈ b, q < w.heap.size := fun q hq => bF.kr hx q hq
 refine ⟨bs ++ uj, ⟨⟨ve, vi, vo, v', tv, be ++ bi ++ bo ++ uj, F8.set 10 v', ⟨⟨be, bi, bo, uj, h1.keep hs (fun b hb => hk3 b (by simp [hb])), h2.keep hs (fun b hb => hk3 b (by simp [hb])), h3.keep hs (fun b hb => hk3 b (by simp [hb])), hO.keep (by simp) (fun b hb => hk2 b (fun e => hgf (e ▸ hb))), rfl⟩, ?_⟩, ?_, ?_, ?_⟩, ?_, ?_, ?_, ?_⟩, ?_, ?_⟩
 ·refine jv (zM hn) hn' fun x hx hx2 => ?_
  rcases hsub x hx2 with e | e | e
  ·exact hap x hx e
  ·exact (hbd x e).1 (List.mem_cons_of_mem _ (h6 x (List.mem_append_left _ hx)))
  ·have := hcl x (List.mem_append_left _ hx); omega
 ·exact gK h5 (fun q hq hq2 => (hk2 q (fun e => dJ (e ▸ (h7 q hq).1))).trans (hk1 q hq2 (fun e => (h7 q hq).2 (List.mem_append_right _ e))))
 ·intro x hx
  rcases List.mem_append.1 hx with e | e
  ·exact List.mem_append_left _ (h6 x (List.mem_append_left _ e))
  ·exact List.mem_append_right _ e
 ·intro q hq
  refine ⟨List.mem_append_left _ (h7 q hq).1, fun hx => ?_⟩
  rcases List.mem_append.1 hx with e | e
  ·exact (h7 q hq).2 (List.mem_append_left _ e)
  ·rcases hsub q e with e | e | e
   ·exact (h7 q hq).2 (List.mem_append_right _ e)
   ·exact (hbd q e).1 (by simp [(h7 q hq).1])
   ·have := hl q (by simp [(h7 q hq).1]); omega
 ·intro x hx
  rw [hgs]
  rcases List.mem_cons.1 hx with e | e
  ·omega
  ·rcases List.mem_append.1 e with e | e
   ·have := hl x (by simp [e]); omega
   ·exact hO.lt x e
 ·intro x hx
  rcases List.mem_append.1 hx with e | e
  ·exact hlo x e
  ·rcases hsub x e with e | e | e
   ·exact hlo x (h6 x (by simp [e]))
   ·exact (hbd x e).2
   ·omega
 ·intro hx
  rcases List.mem_append.1 hx with e | e
  ·exact dJ e
  ·exact hgf e
 ·rw [hgs]; omega
 ·refine ⟨hg.os, hg.tape, hg.output, hs, fun k hk LC => ?_⟩
  exact (hk2 k (fun e => LC (by simp [e]))).trans (hk1 k hk (fun e => LC (by simp [h6 k (by simp [e])])))
 ·intro x hx
  rcases List.mem_append.1 hx with e | e
  ·exact .inl (by simp [e])
  ·rcases hsub x e with e | e | e
   ·exact .inl (by simp [h6 x (by simp [e])])
   ·exact .inl (by simp [e])
   ·exact .inr (by omega)
end
end Go.Proofs.YtlpbnkideaojeaaGreatDoor
