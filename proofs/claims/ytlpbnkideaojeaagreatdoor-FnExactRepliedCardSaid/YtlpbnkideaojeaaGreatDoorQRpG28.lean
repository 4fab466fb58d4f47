/- Lemmas. -/
import Derived.Test.YtlpbnkideaojeaaGreatDoorQRpG27
import Derived.Test.YtlpbnkideaojeaaGreatDoorQRpSB
namespace Go.Proofs.YtlpbnkideaojeaaGreatDoor
open Go.RowKit
open List renaming getElem_toArray → aI, getElem_cons_succ → aJ, getElem_cons_zero → aK, setIfInBounds_toArray → aL, set_cons_zero → aM, set_cons_succ → aN
set_option maxRecDepth 100000
set_option linter.unusedSimpArgs false
set_option linter.unusedVariables false
section
variable {D : Type} {E : lN D}
theorem aW.grow {w : World} {v : Value} {L : List D} {bs : List Nat} (h : aW E w v L bs) (hn : bs.Nodup) : ∃ xs, w.ownsRow 0 E.ty E.size v L.length xs ∧
  ∀ (w1 : World) (v' : Value) (cs : List Value) (x : D) (b : List Nat), E.own w cs x b → b.Nodup → (∀ q ∈ b, q ∉ bs) → w1.ownsRow 0 E.ty E.size v' (L.length + 1) (xs ++ cs) → w.grownBy w1 v.ownBlock → (v'.ownBlock = v.ownBlock ∨ v'.ownBlock = some w.heap.size) →
   ∃ bs', aW E w1 v' (L ++ [x]) bs' ∧ bs'.Nodup ∧ ∀ q ∈ bs', q ∈ bs ∨ q ∈ b ∨ q = w.heap.size := by
 obtain ⟨ts, hL, ho, hE, rfl⟩ := h
 have hlen : L.length = ts.length := by rw [hL]; simp
 refine ⟨ts.flatMap (·.1), by rw [hlen]; exact ho, fun w1 v' cs x b hx hbn hbd ho' hg hat => ?_⟩
 have hap := oG hn
 have hlt2 := E.kr hx
 have hkeep : ∀ x, x < w.heap.size → (∀ g, v.ownBlock = some g → x ≠ g) → w1.heap[x]? = w.heap[x]? := fun x hx hne => hg.block x hx (fun e => by
  cases hv : v.ownBlock with
  | none => rw [hv] at e; simp at e
  | some g => rw [hv] at e; simp at e; exact hne g hv e)
 have hlt1 : ∀ q ∈ ts.flatMap (·.2.2), q < w.heap.size := fun q hq => by
  obtain ⟨t, ht, hq⟩ := List.mem_flatMap.1 hq
  exact E.kr (hE t ht) q hq
 refine ⟨v'.ownBlock.toList ++ (ts.flatMap (·.2.2) ++ b), ⟨ts ++ [(cs, x, b)], by simp [hL], by rw [hlen] at ho'; simpa using ho', fun t ht => ?_, by simp⟩, ?_, ?_⟩
 ·rcases List.mem_append.1 ht with ht | ht
  ·refine E.ji (hE t ht) hg.size fun x hx => ?_
   have hx' : x ∈ ts.flatMap (·.2.2) := List.mem_flatMap.2 ⟨t, ht, hx⟩
   exact hkeep x (E.kr (hE t ht) x hx) fun g hgv e => hap g (by simp [hgv]) (e ▸ hx')
  ·simp at ht
   subst ht
   exact E.ji hx hg.size fun y hy => hkeep y (hlt2 y hy) fun g hgv e => hbd y hy (by subst e; simp [hgv])
 ·refine jv (uh _) (jv (oH hn) hbn fun y hy hy2 => hbd y hy2 (by simp [hy])) fun y hy hy2 => ?_
  have hyv : v'.ownBlock = some y := by cases hv : v'.ownBlock <;> simp [hv] at hy ⊢; exact hy.symm
  rcases hat with e | e
  ·have Qv := e ▸ hyv
   rcases List.mem_append.1 hy2 with h | h
   ·exact hap y (by simp [Qv]) h
   ·exact hbd y h (by simp [Qv])
  ·have hys : y = w.heap.size := by rw [hyv] at e; exact Option.some.inj e
   rcases List.mem_append.1 hy2 with h | h
   ·have := hlt1 y h; omega
   ·have := hlt2 y h; omega
 ·intro q hq
  rcases List.mem_append.1 hq with hq | hq
  ·have hyv : v'.ownBlock = some q := by cases hv : v'.ownBlock <;> simp [hv] at hq ⊢; exact hq.symm
   rcases hat with e | e
   ·exact .inl (by simp [e ▸ hyv])
   ·exact .inr (.inr (by rw [hyv] at e; exact Option.some.inj e))
  ·rcases List.mem_append.1 hq with h | h
   ·exact .inl (by simp [h])
   ·exact .inr (.inl h)
end
theorem cZ.aan {w : World} {g : Nat} {bs : List Nat} {p : Addr} (h3 : g ∉ bs) (hp : p.block = g) (v : Value) : ∀ b ∈ bs, (w.setCell p v).heap[b]? = w.heap[b]? := fun b hb => Below.heap_setCell w _ _ b (fun e => h3 (by have e' : b = g := e.trans hp; rw [← e']; exact hb))
theorem cZ.tu {w : World} {g : Nat} {d : aH} {bs : List Nat} (h : cZ w g d bs) : ∀ b ∈ g :: bs, b < w.heap.size := fun b hb => by
 rcases List.mem_cons.1 hb with rfl | hb
 ·exact h.lt
 ·obtain ⟨⟨_, _, _, _, _, hc⟩, _⟩ := h
  exact hc.lt _ hb
theorem cZ.grow {w : World} {g : Nat} {d : aH} {bs : List Nat} (h : cZ w g d bs) :
  ∃ ve vi vo a p xs, aj w g 40 (vZ d ve vi vo (.slice a d.flows.length p)) ∧ w.ownsRow 0 92 15 (.slice a d.flows.length p) d.flows.length xs ∧ (∀ q, (Value.slice a d.flows.length p).ownBlock = some q → q ∈ bs) ∧
   ∀ (w1 : World) (v' : Value) (f : aV) (vq : Value) (b : List Nat), bF.own w (nS f vq) f b → b.Nodup → (∀ q ∈ b, q ∉ g :: bs) → w1.ownsRow 0 92 15 v' (d.flows.length + 1) (xs ++ nS f vq) → w.grownBy w1 (Value.slice a d.flows.length p).ownBlock → (v'.ownBlock = (Value.slice a d.flows.length p).ownBlock ∨ v'.ownBlock = some w.heap.size) →
    ∃ bs', cZ (w1.setCell ⟨g, 10, none⟩ v') g { d with flows := d.flows ++ [f] } bs' ∧ ∀ q ∈ bs', q ∈ bs ∨ q ∈ b ∨ q = w.heap.size := by
 have hlts := h.tu
 obtain ⟨⟨ve, vi, vo, vf, hrow, ⟨be, bi, bo, bf, h1, h2, h3, h4, rfl⟩, hn⟩, dJ⟩ := h
 obtain ⟨a, p, hvf, _, _⟩ := h4.rd.form
 subst hvf
 have hnf : bf.Nodup := oH hn
 obtain ⟨xs, hxs, hgrow⟩ := h4.grow hnf
 have hvb : ∀ q, (Value.slice a d.flows.length p).ownBlock = some q → q ∈ bf := fun q hq => by
  obtain ⟨ts, _, _, _, rfl⟩ := h4
  simp [hq]
 refine ⟨ve, vi, vo, a, p, xs, hrow, hxs, fun q hq => by simp [hvb q hq], fun w1 v' f vq b hx hbn hbd ho' hg hat => ?_⟩
 obtain ⟨uj, hO, hn', hsub⟩ := hgrow w1 v' (nS f vq) f b hx hbn (fun q hq hq2 => hbd q hq (by simp [hq2])) ho' hg hat
 have hk1 : ∀ x, x < w.heap.size → x ∉ bf → w1.heap[x]? = w.heap[x]? := fun x hx hx2 => hg.block x hx (fun e => hx2 (hvb x e.symm))
 have hgb : g ∉ bf := fun e => dJ (by simp [e])
 have hap : ∀ x ∈ be ++ bi ++ bo, x ∉ bf := oG hn
 have hgl : g < w.heap.size := hlts g (by simp)
 have hgs : (w1.setCell ⟨g, 10, none⟩ v').heap.size = w1.heap.size := by simp
 have hk2 : ∀ x, x ≠ g → (w1.setCell ⟨g, 10, none⟩ v').heap[x]? = w1.heap[x]? := fun x hx => Below.heap_setCell _ _ _ x (show x ≠ g from hx)
 have hk3 : ∀ x ∈ be ++ bi ++ bo, (w1.setCell ⟨g, 10, none⟩ v').heap[x]? = w.heap[x]? := fun x hx => (hk2 x (fun e => dJ (by rw [← e]; exact List.mem_append_left _ hx))).trans (hk1 x (hlts x (by simp only [List.mem_cons, List.mem_append] at hx ⊢; rcases hx with (hx | hx) | hx <;> simp [hx])) (hap x hx))
 have hgf : g ∉ uj := fun e => by
  rcases hsub g e with e | e | e
  ·exact hgb e
  ·exact hbd g e (by simp)
  ·omega
 have hs : w.heap.size ≤ (w1.setCell ⟨g, 10, none⟩ v').heap.size := by rw [hgs]; exact hg.size
 have F8 : aj w1 g 40 (vZ d ve vi vo (.slice a d.flows.length p)) := hrow.kept (hk1 g hgl hgb)
 refine ⟨be ++ bi ++ bo ++ uj, ⟨⟨ve, vi, vo, v', F8.set 10 v', ⟨be, bi, bo, uj, h1.keep hs (fun b hb => hk3 b (by simp [hb])), h2.keep hs (fun b hb => hk3 b (by simp [hb])), h3.keep hs (fun b hb => hk3 b (by simp [hb])), hO.keep (by simp) (fun b hb => hk2 b (fun e => hgf (e ▸ hb))), rfl⟩, ?_⟩, ?_⟩, ?_⟩
 ·refine jv (zM hn) hn' fun x hx hx2 => ?_
  rcases hsub x hx2 with e | e | e
  ·exact hap x hx e
  ·exact hbd x e (List.mem_cons_of_mem _ (List.mem_append_left _ hx))
  ·have := hlts x (List.mem_cons_of_mem _ (List.mem_append_left _ hx)); omega
 ·intro e
  rcases List.mem_append.1 e with e | e
  ·exact dJ (List.mem_append_left _ e)
  ·exact hgf e
 ·intro q hq
  rcases List.mem_append.1 hq with e | e
  ·exact .inl (List.mem_append_left _ e)
  ·rcases hsub q e with e | e | e
   ·exact .inl (List.mem_append_right _ e)
   ·exact .inr (.inl e)
   ·exact .inr (.inr e)
theorem mq {c : aH} (h : ¬ (fE c.reg = true ∧ bI c.inr c.inT = true ∧ bI c.au c.outT = true ∧ fP c.get = true ∧ fP c.give = true ∧ aQ c.first 0 16777215 = true ∧ eX c.flows c.reg.es = true)) : dV c = false := by
 cases e : dV c
 ·rfl
 ·unfold dV at e
  simp only [Bool.and_eq_true] at e
  obtain ⟨⟨⟨⟨⟨⟨a, b⟩, c⟩, d⟩, e⟩, f⟩, g⟩ := e
  exact absurd ⟨a, b, c, d, e, f, g⟩ h
theorem aaA {c : aH} (h1 : fE c.reg = true) (h2 : bI c.inr c.inT = true) (h3 : bI c.au c.outT = true) (h4 : fP c.get = true) (h5 : fP c.give = true) (h6 : aQ c.first 0 16777215 = true) (h7 : eX c.flows c.reg.es = true) : dV c = true := by
 unfold dV; rw [h1, h2, h3, h4, h5, h6, h7]; rfl
theorem Qs {fs : List aV} {es : List aF} {i : Nat} (h : i < fs.length) (h' : i < es.length) (hn : gN fs[i] es[i] = false) : eX fs es = false := by
 cases e : eX fs es
 ·rfl
 ·rw [Dk e i h h'] at hn; cases hn
theorem pz {f : aV} {e : aF} (h : ¬ (f.id = e.id ∧ fP f.get = true ∧ fP f.give = true ∧ dZ f.fds = true ∧ jJ f.tun = true)) : gN f e = false := by
 cases q : gN f e
 ·rfl
 ·unfold gN at q
  simp only [Bool.and_eq_true, decide_eq_true_eq] at q
  obtain ⟨⟨⟨⟨a, b⟩, c⟩, d⟩, e⟩ := q
  exact absurd ⟨a, b, c, d, e⟩ h
theorem Qr {f : aV} {e : aF} (h1 : f.id = e.id) (h2 : fP f.get = true) (h3 : fP f.give = true) (h4 : dZ f.fds = true) (h5 : jJ f.tun = true) : gN f e = true := by
 unfold gN; rw [decide_eq_true h1, h2, h3, h4, h5]; rfl
set_option maxHeartbeats 8000000 in
theorem R8 (d : aH) (ve vi vo vf : Value) (w : World) (hv : je w d ve vi vo vf) : Calls Tryz.prog 17 #[bH d ve vi vo vf] w fun x w' => x = .returned (.bool (dV d)) ∧ Below w.heap.size w w' := by
 dsimp only [bH] at *
 have HV := hide hv
 clear hv
 obtain ⟨ae, pe, rfl, _⟩ := HV.out.e.form
 obtain ⟨ai, pi, rfl, _⟩ := HV.out.i.form
 obtain ⟨ao, po, rfl, _⟩ := HV.out.o.form
 obtain ⟨af, pf, rfl, _⟩ := HV.out.f.form
 have RX := aB w 40 [.int .i64 d.reg.lim, .int .i64 d.reg.top, .slice ae d.reg.es.length pe, .int .i64 d.inr, .slice ai d.inT.length pi, .int .i64 d.au, .slice ao d.outT.length po, .int .i64 d.get, .int .i64 d.give, .int .i64 d.first, .slice af d.flows.length pf, .bool d.away, .bool d.dead]
 have HB : Below w.heap.size w (w.alloc (.cells #[.int .i64 d.reg.lim, .int .i64 d.reg.top, .slice ae d.reg.es.length pe, .int .i64 d.inr, .slice ai d.inT.length pi, .int .i64 d.au, .slice ao d.outT.length po, .int .i64 d.get, .int .i64 d.give, .int .i64 d.first, .slice af d.flows.length pf, .bool d.away, .bool d.dead] 40)) := (Below.refl _ _).alloc (Nat.le_refl _) _
 obtain ⟨lf, hlf⟩ : ∃ n, n = d.flows.length := ⟨_, rfl⟩
 obtain ⟨le, hle⟩ : ∃ n, n = d.reg.es.length := ⟨_, rfl⟩
 have HLF := hide hlf; have HLE := hide hle
 cases k1 : fE d.reg
 ·go_enter Tryz.func17, Tryz.ntmps17
  go_wp2_with fail
  refine (uP d.reg _ _ (HV.out.e.new HB)).mono ?_; rw [k1]; rintro x u0 ⟨rfl, hb⟩
  replace RX := RX.new hb
  replace HB := ah HB hb
  clear hb
  obtain ⟨x0, x1, x2, x3, x4, x5, x6, x7, x8, x9, x10, bC, bS⟩ := dw RX
  go_wp2_with fail
  go_ret
  exact ⟨by rw [mq (fun h => by rw [k1] at h; simp at h)]; rfl, HB⟩
 cases k2 : bI d.inr d.inT
 ·go_enter Tryz.func17, Tryz.ntmps17
  go_wp2_with fail
  refine (uP d.reg _ _ (HV.out.e.new HB)).mono ?_; rw [k1]; rintro x u0 ⟨rfl, hb⟩
  replace RX := RX.new hb
  replace HB := ah HB hb
  clear hb
  obtain ⟨x0, x1, x2, x3, x4, x5, x6, x7, x8, x9, x10, bC, bS⟩ := dw RX
  go_wp2_with fail
  refine (nD d.inT d.inr _ _ (dM (HV.out.i.new HB)) (eu (HV.out.i.new HB))).mono ?_; rw [k2]; rintro x u1 ⟨rfl, hb⟩
  replace RX := RX.new hb
  replace HB := ah HB hb
  clear hb
  clear x0 x1 x2 x3 x4 x5 x6 x7 x8 x9 x10 bC bS
  obtain ⟨x0, x1, x2, x3, x4, x5, x6, x7, x8, x9, x10, bC, bS⟩ := dw RX
  go_wp2_with fail
  go_ret
  exact ⟨by rw [mq (fun h => by rw [k2] at h; simp at h)]; rfl, HB⟩
 cases k3 : bI d.au d.outT
 ·go_enter Tryz.func17, Tryz.ntmps17
  go_wp2_with fail
  refine (uP d.reg _ _ (HV.out.e.new HB)).mono ?_; rw [k1]; rintro x u0 ⟨rfl, hb⟩
  replace RX := RX.new hb
  replace HB := ah HB hb
  clear hb
  obtain ⟨x0, x1, x2, x3, x4, x5, x6, x7, x8, x9, x10, bC, bS⟩ := dw RX
  go_wp2_with fail
  refine (nD d.inT d.inr _ _ (dM (HV.out.i.new HB)) (eu (HV.out.i.new HB))).mono ?_; rw [k2]; rintro x u1 ⟨rfl, hb⟩
  replace RX := RX.new hb
  replace HB := ah HB hb
  clear hb
  clear x0 x1 x2 x3 x4 x5 x6 x7 x8 x9 x10 bC bS
  obtain ⟨x0, x1, x2, x3, x4, x5, x6, x7, x8, x9, x10, bC, bS⟩ := dw RX
  go_wp2_with fail
  refine (nD d.outT d.au _ _ (dM (HV.out.o.new HB)) (eu (HV.out.o.new HB))).mono ?_; rw [k3]; rintro x u2 ⟨rfl, hb⟩
  replace RX := RX.new hb
  replace HB := ah HB hb
  clear hb
  clear x0 x1 x2 x3 x4 x5 x6 x7 x8 x9 x10 bC bS
  obtain ⟨x0, x1, x2, x3, x4, x5, x6, x7, x8, x9, x10, bC, bS⟩ := dw RX
  go_wp2_with fail
  go_ret
  exact ⟨by rw [mq (fun h => by rw [k3] at h; simp at h)]; rfl, HB⟩
 cases k4 : fP d.get
 ·go_enter Tryz.func17, Tryz.ntmps17
  go_wp2_with fail
  refine (uP d.reg _ _ (HV.out.e.new HB)).mono ?_; rw [k1]; rintro x u0 ⟨rfl, hb⟩
  replace RX := RX.new hb
  replace HB := ah HB hb
  clear hb
  obtain ⟨x0, x1, x2, x3, x4, x5, x6, x7, x8, x9, x10, bC, bS⟩ := dw RX
  go_wp2_with fail
  refine (nD d.inT d.inr _ _ (dM (HV.out.i.new HB)) (eu (HV.out.i.new HB))).mono ?_; rw [k2]; rintro x u1 ⟨rfl, hb⟩
  replace RX := RX.new hb
  replace HB := ah HB hb
  clear hb
  clear x0 x1 x2 x3 x4 x5 x6 x7 x8 x9 x10 bC bS
  obtain ⟨x0, x1, x2, x3, x4, x5, x6, x7, x8, x9, x10, bC, bS⟩ := dw RX
  go_wp2_with fail
  refine (nD d.outT d.au _ _ (dM (HV.out.o.new HB)) (eu (HV.out.o.new HB))).mono ?_; rw [k3]; rintro x u2 ⟨rfl, hb⟩
  replace RX := RX.new hb
  replace HB := ah HB hb
  clear hb
  clear x0 x1 x2 x3 x4 x5 x6 x7 x8 x9 x10 bC bS
  obtain ⟨x0, x1, x2, x3, x4, x5, x6, x7, x8, x9, x10, bC, bS⟩ := dw RX
  go_wp2_with fail
  refine (kC d.get _).mono ?_; rw [k4]; rintro e v3 ⟨rfl, hsame⟩; obtain rfl := hsame.symm; clear hsame
  go_wp2_with fail
  go_ret
  exact ⟨by rw [mq (fun h => by rw [k4] at h; simp at h)]; rfl, HB⟩
 cases k5 : fP d.give
 ·go_enter Tryz.func17, Tryz.ntmps17
  go_wp2_with fail
  refine (uP d.reg _ _ (HV.out.e.new HB)).mono ?_; rw [k1]; rintro x u0 ⟨rfl, hb⟩
  replace RX := RX.new hb
  replace HB := ah HB hb
  clear hb
  obtain ⟨x0, x1, x2, x3, x4, x5, x6, x7, x8, x9, x10, bC, bS⟩ := dw RX
  go_wp2_with fail
  refine (nD d.inT d.inr _ _ (dM (HV.out.i.new HB)) (eu (HV.out.i.new HB))).mono ?_; rw [k2]; rintro x u1 ⟨rfl, hb⟩
  replace RX := RX.new hb
  replace HB := ah HB hb
  clear hb
  clear x0 x1 x2 x3 x4 x5 x6 x7 x8 x9 x10 bC bS
  obtain ⟨x0, x1, x2, x3, x4, x5, x6, x7, x8, x9, x10, bC, bS⟩ := dw RX
  go_wp2_with fail
  refine (nD d.outT d.au _ _ (dM (HV.out.o.new HB)) (eu (HV.out.o.new HB))).mono ?_; rw [k3]; rintro x u2 ⟨rfl, hb⟩
  replace RX := RX.new hb
  replace HB := ah HB hb
  clear hb
  clear x0 x1 x2 x3 x4 x5 x6 x7 x8 x9 x10 bC bS
  obtain ⟨x0, x1, x2, x3, x4, x5, x6, x7, x8, x9, x10, bC, bS⟩ := dw RX
  go_wp2_with fail
  refine (kC d.get _).mono ?_; rw [k4]; rintro e v3 ⟨rfl, hsame⟩; obtain rfl := hsame.symm; clear hsame
  go_wp2_with fail
  refine (kC d.give _).mono ?_; rw [k5]; rintro e v4 ⟨rfl, hsame⟩; obtain rfl := hsame.symm; clear hsame
  go_wp2_with fail
  go_ret
  exact ⟨by rw [mq (fun h => by rw [k5] at h; simp at h)]; rfl, HB⟩
 cases k6 : aQ d.first 0 16777215
 ·go_enter Tryz.func17, Tryz.ntmps17
  go_wp2_with fail
  refine (uP d.reg _ _ (HV.out.e.new HB)).mono ?_; rw [k1]; rintro x u0 ⟨rfl, hb⟩
  replace RX := RX.new hb
  replace HB := ah HB hb
  clear hb
  obtain ⟨x0, x1, x2, x3, x4, x5, x6, x7, x8, x9, x10, bC, bS⟩ := dw RX
  go_wp2_with fail
  refine (nD d.inT d.inr _ _ (dM (HV.out.i.new HB)) (eu (HV.out.i.new HB))).mono ?_; rw [k2]; rintro x u1 ⟨rfl, hb⟩
  replace RX := RX.new hb
  replace HB := ah HB hb
  clear hb
  clear x0 x1 x2 x3 x4 x5 x6 x7 x8 x9 x10 bC bS
  obtain ⟨x0, x1, x2, x3, x4, x5, x6, x7, x8, x9, x10, bC, bS⟩ := dw RX
  go_wp2_with fail
  refine (nD d.outT d.au _ _ (dM (HV.out.o.new HB)) (eu (HV.out.o.new HB))).mono ?_; rw [k3]; rintro x u2 ⟨rfl, hb⟩
  replace RX := RX.new hb
  replace HB := ah HB hb
  clear hb
  clear x0 x1 x2 x3 x4 x5 x6 x7 x8 x9 x10 bC bS
  obtain ⟨x0, x1, x2, x3, x4, x5, x6, x7, x8, x9, x10, bC, bS⟩ := dw RX
  go_wp2_with fail
  refine (kC d.get _).mono ?_; rw [k4]; rintro e v3 ⟨rfl, hsame⟩; obtain rfl := hsame.symm; clear hsame
  go_wp2_with fail
  refine (kC d.give _).mono ?_; rw [k5]; rintro e v4 ⟨rfl, hsame⟩; obtain rfl := hsame.symm; clear hsame
  go_wp2_with fail
  refine (jP d.first 0 16777215 _).mono ?_; rw [k6]; rintro e v5 ⟨rfl, hsame⟩; obtain rfl := hsame.symm; clear hsame
  go_wp2_with fail
  go_ret
  exact ⟨by rw [mq (fun h => by rw [k6] at h; simp at h)]; rfl, HB⟩
 by_cases k7 : d.flows.length = d.reg.es.length
 rotate_left
 ·have k7' : ((d.flows.length : Int) != d.reg.es.length) = true := by simpa using fun c : (d.flows.length : Int) = d.reg.es.length => k7 (by omega)
  have JM := hide k7
  clear k7
  go_enter Tryz.func17, Tryz.ntmps17
  go_wp2_with fail
  refine (uP d.reg _ _ (HV.out.e.new HB)).mono ?_; rw [k1]; rintro x u0 ⟨rfl, hb⟩
  replace RX := RX.new hb
  replace HB := ah HB hb
  clear hb
  obtain ⟨x0, x1, x2, x3, x4, x5, x6, x7, x8, x9, x10, bC, bS⟩ := dw RX
  go_wp2_with fail
  refine (nD d.inT d.inr _ _ (dM (HV.out.i.new HB)) (eu (HV.out.i.new HB))).mono ?_; rw [k2]; rintro x u1 ⟨rfl, hb⟩
  replace RX := RX.new hb
  replace HB := ah HB hb
  clear hb
  clear x0 x1 x2 x3 x4 x5 x6 x7 x8 x9 x10 bC bS
  obtain ⟨x0, x1, x2, x3, x4, x5, x6, x7, x8, x9, x10, bC, bS⟩ := dw RX
  go_wp2_with fail
  refine (nD d.outT d.au _ _ (dM (HV.out.o.new HB)) (eu (HV.out.o.new HB))).mono ?_; rw [k3]; rintro x u2 ⟨rfl, hb⟩
  replace RX := RX.new hb
  replace HB := ah HB hb
  clear hb
  clear x0 x1 x2 x3 x4 x5 x6 x7 x8 x9 x10 bC bS
  obtain ⟨x0, x1, x2, x3, x4, x5, x6, x7, x8, x9, x10, bC, bS⟩ := dw RX
  go_wp2_with fail
  refine (kC d.get _).mono ?_; rw [k4]; rintro e v3 ⟨rfl, hsame⟩; obtain rfl := hsame.symm; clear hsame
  go_wp2_with fail
  refine (kC d.give _).mono ?_; rw [k5]; rintro e v4 ⟨rfl, hsame⟩; obtain rfl := hsame.symm; clear hsame
  go_wp2_with fail
  refine (jP d.first 0 16777215 _).mono ?_; rw [k6]; rintro e v5 ⟨rfl, hsame⟩; obtain rfl := hsame.symm; clear hsame
  go_wp2_with fail
  go_ret
  exact ⟨by rw [mq (fun h => JM.out (Dj h.2.2.2.2.2.2))]; rfl, HB⟩
 have k7' : ((d.flows.length : Int) != d.reg.es.length) = false := by simpa using (show (d.flows.length : Int) = d.reg.es.length by omega)
 have JM := hide k7
 have hle1 : d.flows.length ≤ d.reg.es.length := by omega
 clear k7
 have aaB : Hid (eX d.flows d.reg.es = true → dV d = true) := fun h => aaA k1 k2 k3 k4 k5 k6 h
 have Er : Hid (eX d.flows d.reg.es = false → dV d = false) := fun h => mq (fun c => by rw [h] at c; simp at c)
 go_enter Tryz.func17, Tryz.ntmps17
 go_wp2_with fail
 refine (uP d.reg _ _ (HV.out.e.new HB)).mono ?_; rw [k1]; rintro x u0 ⟨rfl, hb⟩
 replace RX := RX.new hb
 replace HB := ah HB hb
 clear hb
 obtain ⟨x0, x1, x2, x3, x4, x5, x6, x7, x8, x9, x10, bC, bS⟩ := dw RX
 go_wp2_with fail
 refine (nD d.inT d.inr _ _ (dM (HV.out.i.new HB)) (eu (HV.out.i.new HB))).mono ?_; rw [k2]; rintro x u1 ⟨rfl, hb⟩
 replace RX := RX.new hb
 replace HB := ah HB hb
 clear hb
 clear x0 x1 x2 x3 x4 x5 x6 x7 x8 x9 x10 bC bS
 obtain ⟨x0, x1, x2, x3, x4, x5, x6, x7, x8, x9, x10, bC, bS⟩ := dw RX
 go_wp2_with fail
 refine (nD d.outT d.au _ _ (dM (HV.out.o.new HB)) (eu (HV.out.o.new HB))).mono ?_; rw [k3]; rintro x u2 ⟨rfl, hb⟩
 replace RX := RX.new hb
 replace HB := ah HB hb
 clear hb
 clear x0 x1 x2 x3 x4 x5 x6 x7 x8 x9 x10 bC bS
 obtain ⟨x0, x1, x2, x3, x4, x5, x6, x7, x8, x9, x10, bC, bS⟩ := dw RX
 go_wp2_with fail
 refine (kC d.get _).mono ?_; rw [k4]; rintro e v3 ⟨rfl, hsame⟩; obtain rfl := hsame.symm; clear hsame
 go_wp2_with fail
 refine (kC d.give _).mono ?_; rw [k5]; rintro e v4 ⟨rfl, hsame⟩; obtain rfl := hsame.symm; clear hsame
 go_wp2_with fail
 refine (jP d.first 0 16777215 _).mono ?_; rw [k6]; rintro e v5 ⟨rfl, hsame⟩; obtain rfl := hsame.symm; clear hsame
 go_wp2_with fail
 have gV := hide RX; have aC := hide HB
 clear x0 x1 x2 x3 x4 x5 x6 x7 x8 x9 x10 bC bS RX HB k1 k2 k3 k4 k5 k6
 go_loopw [3] (fun i wr => ∃ k : Nat, i = .int .i64 k ∧ k ≤ d.flows.length ∧ Hid (∀ j (h : j < d.flows.length) (h' : j < d.reg.es.length), j < k → gN d.flows[j] d.reg.es[j] = true) ∧ Hid (aj wr w.heap.size 40 [.int .i64 d.reg.lim, .int .i64 d.reg.top, .slice ae d.reg.es.length pe, .int .i64 d.inr, .slice ai d.inT.length pi, .int .i64 d.au, .slice ao d.outT.length po, .int .i64 d.get, .int .i64 d.give, .int .i64 d.first, .slice af d.flows.length pf, .bool d.away, .bool d.dead]) ∧ Hid (Below w.heap.size w wr)) (fun i _ => d.flows.length - (intOf i).toNat)
 case atStart => exact ⟨0, rfl, Nat.zero_le _, fun j _ _ h => absurd h (Nat.not_lt_zero _), gV, aC⟩
 case round =>
  clear gV aC
  obtain ⟨i, rfl, hi, HI, gV, aC⟩ := hrel
  have RX := gV.out
  have x10 := ak 10 RX rfl
  by_cases hlt : i < d.flows.length
  rotate_left
  ·have HT : Hid (dV d = true) := aaB.out (Gi JM.out (fun j h h' => HI.out j h h' (by omega)))
   clear RX
   go_wp2_with fail
   go_ret
   exact ⟨by rw [HT.out]; rfl, aC.out⟩
  have BQ : i < d.reg.es.length := by omega
  obtain ⟨b, o, cs, rfl, hbw, hrd, hc⟩ := (HV.out.f.new aC.out).at i hlt
  obtain ⟨be, oe, ce, rfl, hbe, hre, hce⟩ := (HV.out.e.new aC.out).at i BQ
  have HF := hide (rfl : d.flows[i] = d.flows[i])
  obtain ⟨f, hf⟩ : ∃ f, d.flows[i] = f := ⟨_, rfl⟩
  obtain ⟨e, he⟩ : ∃ e, d.reg.es[i] = e := ⟨_, rfl⟩
  have BX : Hid (gN f e = false → dV d = false) := fun h => Er.out (Qs hlt BQ (by rw [hf, he]; exact h))
  have HYi : Hid (gN f e = true → ∀ j (h : j < d.flows.length) (h' : j < d.reg.es.length), j < i + 1 → gN d.flows[j] d.reg.es[j] = true) := fun hq j h h' hj => by
   by_cases hji : j = i
   ·subst hji; rw [hf, he]; exact hq
   ·exact HI.out j h h' (by omega)
  rw [hf] at hrd
  rw [he] at hre
  clear hf he HF
  obtain ⟨vf, rfl, hf0, hf1, lF⟩ := hrd
  obtain ⟨qP, qQ, rfl, _⟩ := lF.form
  have jV := hide lF
  clear lF
  obtain rfl := hre
  have BU : wr.cell? ⟨be, oe + i * 2, none⟩ = some (.int .i64 e.id) := hce 0 _ rfl
  have c0 : wr.cell? ⟨b, o + i * 15, none⟩ = some (.int .i64 f.id) := hc 0 _ rfl
  have c1 : wr.cell? ⟨b, o + i * 15 + 1, none⟩ = some (.int .i64 f.get) := hc 1 _ rfl
  have c2 : wr.cell? ⟨b, o + i * 15 + 2, none⟩ = some (.int .i64 f.give) := hc 2 _ rfl
  have c3 : wr.cell? ⟨b, o + i * 15 + 3, none⟩ = some (.slice qP f.fds.length qQ) := hc 3 _ rfl
  have c4 : wr.cell? ⟨b, o + i * 15 + 4, none⟩ = some (.int .i64 f.tun.up.r) := hc 4 _ rfl
  have c5 : wr.cell? ⟨b, o + i * 15 + 5, none⟩ = some (.string f.tun.up.b) := hc 5 _ rfl
  have c6 : wr.cell? ⟨b, o + i * 15 + 6, none⟩ = some (.bool f.tun.up.e) := hc 6 _ rfl
  have c7 : wr.cell? ⟨b, o + i * 15 + 7, none⟩ = some (.bool f.tun.up.k) := hc 7 _ rfl
  have c8 : wr.cell? ⟨b, o + i * 15 + 8, none⟩ = some (.int .i64 f.tun.dn.r) := hc 8 _ rfl
  have c9 : wr.cell? ⟨b, o + i * 15 + 9, none⟩ = some (.string f.tun.dn.b) := hc 9 _ rfl
  have c10 : wr.cell? ⟨b, o + i * 15 + 10, none⟩ = some (.bool f.tun.dn.e) := hc 10 _ rfl
  have c11 : wr.cell? ⟨b, o + i * 15 + 11, none⟩ = some (.bool f.tun.dn.k) := hc 11 _ rfl
  have c12 : wr.cell? ⟨b, o + i * 15 + 12, none⟩ = some (.int .i64 f.tun.went) := hc 12 _ rfl
  have c13 : wr.cell? ⟨b, o + i * 15 + 13, none⟩ = some (.int .i64 f.tun.came) := hc 13 _ rfl
  have c14 : wr.cell? ⟨b, o + i * 15 + 14, none⟩ = some (.bool f.ended) := hc 14 _ rfl
  clear hc hce
  go_upto_region 7 with (refine wpList_store_row (by rfl) 92 _ _ (by rfl) wr.heap.size [.int .i64 f.id, .int .i64 f.get, .int .i64 f.give, .slice qP f.fds.length qQ, .int .i64 f.tun.up.r, .string f.tun.up.b, .bool f.tun.up.e, .bool f.tun.up.k, .int .i64 f.tun.dn.r, .string f.tun.dn.b, .bool f.tun.dn.e, .bool f.tun.dn.k, .int .i64 f.tun.went, .int .i64 f.tun.came, .bool f.ended] (by rfl) (by rfl) 92 [.int .i64 0, .int .i64 0, .int .i64 0, .slice none 0 0, .int .i64 0, .string ⟨#[]⟩, .bool false, .bool false, .int .i64 0, .string ⟨#[]⟩, .bool false, .bool false, .int .i64 0, .int .i64 0, .bool false] (aB wr 92 [.int .i64 0, .int .i64 0, .int .i64 0, .slice none 0 0, .int .i64 0, .string ⟨#[]⟩, .bool false, .bool false, .int .i64 0, .string ⟨#[]⟩, .bool false, .bool false, .int .i64 0, .int .i64 0, .bool false]) (by kernel_rfl) rfl (by intro u hu; simp at hu; rcases hu with rfl | rfl | rfl | rfl | rfl | rfl | rfl | rfl | rfl | rfl | rfl | rfl | rfl | rfl | rfl <;> rfl) ?_)
  have aO : Below wr.heap.size wr ((wr.alloc (.cells #[.int .i64 0, .int .i64 0, .int .i64 0, .slice none 0 0, .int .i64 0, .string ⟨#[]⟩, .bool false, .bool false, .int .i64 0, .string ⟨#[]⟩, .bool false, .bool false, .int .i64 0, .int .i64 0, .bool false] 92)).setRow wr.heap.size #[.int .i64 f.id, .int .i64 f.get, .int .i64 f.give, .slice qP f.fds.length qQ, .int .i64 f.tun.up.r, .string f.tun.up.b, .bool f.tun.up.e, .bool f.tun.up.k, .int .i64 f.tun.dn.r, .string f.tun.dn.b, .bool f.tun.dn.e, .bool f.tun.dn.k, .int .i64 f.tun.went, .int .i64 f.tun.came, .bool f.ended]) := below_setRow ((Below.refl _ _).alloc (Nat.le_refl _) _) (Nat.le_refl _) #[.int .i64 f.id, .int .i64 f.get, .int .i64 f.give, .slice qP f.fds.length qQ, .int .i64 f.tun.up.r, .string f.tun.up.b, .bool f.tun.up.e, .bool f.tun.up.k, .int .i64 f.tun.dn.r, .string f.tun.dn.b, .bool f.tun.dn.e, .bool f.tun.dn.k, .int .i64 f.tun.went, .int .i64 f.tun.came, .bool f.ended]
  have RY : aj ((wr.alloc (.cells #[.int .i64 0, .int .i64 0, .int .i64 0, .slice none 0 0, .int .i64 0, .string ⟨#[]⟩, .bool false, .bool false, .int .i64 0, .string ⟨#[]⟩, .bool false, .bool false, .int .i64 0, .int .i64 0, .bool false] 92)).setRow wr.heap.size #[.int .i64 f.id, .int .i64 f.get, .int .i64 f.give, .slice qP f.fds.length qQ, .int .i64 f.tun.up.r, .string f.tun.up.b, .bool f.tun.up.e, .bool f.tun.up.k, .int .i64 f.tun.dn.r, .string f.tun.dn.b, .bool f.tun.dn.e, .bool f.tun.dn.k, .int .i64 f.tun.went, .int .i64 f.tun.came, .bool f.ended]) wr.heap.size 92 [.int .i64 f.id, .int .i64 f.get, .int .i64 f.give, .slice qP f.fds.length qQ, .int .i64 f.tun.up.r, .string f.tun.up.b, .bool f.tun.up.e, .bool f.tun.up.k, .int .i64 f.tun.dn.r, .string f.tun.dn.b, .bool f.tun.dn.e, .bool f.tun.dn.k, .int .i64 f.tun.went, .int .i64 f.tun.came, .bool f.ended] := dW (cs' := [.int .i64 f.id, .int .i64 f.get, .int .i64 f.give, .slice qP f.fds.length qQ, .int .i64 f.tun.up.r, .string f.tun.up.b, .bool f.tun.up.e, .bool f.tun.up.k, .int .i64 f.tun.dn.r, .string f.tun.dn.b, .bool f.tun.dn.e, .bool f.tun.dn.k, .int .i64 f.tun.went, .int .i64 f.tun.came, .bool f.ended]) (aB wr 92 [.int .i64 0, .int .i64 0, .int .i64 0, .slice none 0 0, .int .i64 0, .string ⟨#[]⟩, .bool false, .bool false, .int .i64 0, .string ⟨#[]⟩, .bool false, .bool false, .int .i64 0, .int .i64 0, .bool false])
  have EN := RX.new aO
  have Qw := (aO.cell (p := ⟨be, oe + i * 2, none⟩) hbe).trans BU
  have aaC : be < ((wr.alloc (.cells #[.int .i64 0, .int .i64 0, .int .i64 0, .slice none 0 0, .int .i64 0, .string ⟨#[]⟩, .bool false, .bool false, .int .i64 0, .string ⟨#[]⟩, .bool false, .bool false, .int .i64 0, .int .i64 0, .bool false] 92)).setRow wr.heap.size #[.int .i64 f.id, .int .i64 f.get, .int .i64 f.give, .slice qP f.fds.length qQ, .int .i64 f.tun.up.r, .string f.tun.up.b, .bool f.tun.up.e, .bool f.tun.up.k, .int .i64 f.tun.dn.r, .string f.tun.dn.b, .bool f.tun.dn.e, .bool f.tun.dn.k, .int .i64 f.tun.went, .int .i64 f.tun.came, .bool f.ended]).heap.size := Nat.lt_of_lt_of_le hbe aO.size
  replace jV := hide (jV.out.new aO)
  replace aC := hide (ah aC.out aO)
  generalize (wr.alloc (.cells #[.int .i64 0, .int .i64 0, .int .i64 0, .slice none 0 0, .int .i64 0, .string ⟨#[]⟩, .bool false, .bool false, .int .i64 0, .string ⟨#[]⟩, .bool false, .bool false, .int .i64 0, .int .i64 0, .bool false] 92)).setRow wr.heap.size #[.int .i64 f.id, .int .i64 f.get, .int .i64 f.give, .slice qP f.fds.length qQ, .int .i64 f.tun.up.r, .string f.tun.up.b, .bool f.tun.up.e, .bool f.tun.up.k, .int .i64 f.tun.dn.r, .string f.tun.dn.b, .bool f.tun.dn.e, .bool f.tun.dn.k, .int .i64 f.tun.went, .int .i64 f.tun.came, .bool f.ended] = V at *
  generalize wr.heap.size = gy at *
  clear aO RX BU x10 c0 c1 c2 c3 c4 c5 c6 c7 c8 c9 c10 c11 c12 c13 c14 gV
  have x2 := ak 2 EN rfl
  have hlx := EN.lt
  have jQ := RY.lt
  have q2 : ∀ y : Later V, y.w.cell? ⟨w.heap.size, 2, none⟩ = some (.slice (some ⟨be, oe, none⟩) d.reg.es.length pe) := fun y => (y.b.cell (p := ⟨w.heap.size, 2, none⟩) hlx).trans x2
  have qe : ∀ y : Later V, y.w.cell? ⟨be, oe + i * 2, none⟩ = some (.int .i64 e.id) := fun y => (y.b.cell (p := ⟨be, oe + i * 2, none⟩) aaC).trans Qw
  have y0 := ak 0 RY rfl
  have r0 : ∀ y : Later V, y.w.cell? ⟨gy, 0, none⟩ = some (.int .i64 f.id) := fun y => (y.b.cell (p := ⟨gy, 0, none⟩) jQ).trans y0
  have y1 := ak 1 RY rfl
  have r1 : ∀ y : Later V, y.w.cell? ⟨gy, 1, none⟩ = some (.int .i64 f.get) := fun y => (y.b.cell (p := ⟨gy, 1, none⟩) jQ).trans y1
  have y2 := ak 2 RY rfl
  have r2 : ∀ y : Later V, y.w.cell? ⟨gy, 2, none⟩ = some (.int .i64 f.give) := fun y => (y.b.cell (p := ⟨gy, 2, none⟩) jQ).trans y2
  have y3 := ak 3 RY rfl
  have r3 : ∀ y : Later V, y.w.cell? ⟨gy, 3, none⟩ = some (.slice qP f.fds.length qQ) := fun y => (y.b.cell (p := ⟨gy, 3, none⟩) jQ).trans y3
  have y4 := ak 4 RY rfl
  have r4 : ∀ y : Later V, y.w.cell? ⟨gy, 4, none⟩ = some (.int .i64 f.tun.up.r) := fun y => (y.b.cell (p := ⟨gy, 4, none⟩) jQ).trans y4
  have y5 := ak 5 RY rfl
  have r5 : ∀ y : Later V, y.w.cell? ⟨gy, 5, none⟩ = some (.string f.tun.up.b) := fun y => (y.b.cell (p := ⟨gy, 5, none⟩) jQ).trans y5
  have y6 := ak 6 RY rfl
  have r6 : ∀ y : Later V, y.w.cell? ⟨gy, 6, none⟩ = some (.bool f.tun.up.e) := fun y => (y.b.cell (p := ⟨gy, 6, none⟩) jQ).trans y6
  have y7 := ak 7 RY rfl
  have r7 : ∀ y : Later V, y.w.cell? ⟨gy, 7, none⟩ = some (.bool f.tun.up.k) := fun y => (y.b.cell (p := ⟨gy, 7, none⟩) jQ).trans y7
  have y8 := ak 8 RY rfl
  have r8 : ∀ y : Later V, y.w.cell? ⟨gy, 8, none⟩ = some (.int .i64 f.tun.dn.r) := fun y => (y.b.cell (p := ⟨gy, 8, none⟩) jQ).trans y8
  have y9 := ak 9 RY rfl
  have r9 : ∀ y : Later V, y.w.cell? ⟨gy, 9, none⟩ = some (.string f.tun.dn.b) := fun y => (y.b.cell (p := ⟨gy, 9, none⟩) jQ).trans y9
  have rQ := ak 10 RY rfl
  have r10 : ∀ y : Later V, y.w.cell? ⟨gy, 10, none⟩ = some (.bool f.tun.dn.e) := fun y => (y.b.cell (p := ⟨gy, 10, none⟩) jQ).trans rQ
  have wB := ak 11 RY rfl
  have r11 : ∀ y : Later V, y.w.cell? ⟨gy, 11, none⟩ = some (.bool f.tun.dn.k) := fun y => (y.b.cell (p := ⟨gy, 11, none⟩) jQ).trans wB
  have wC := ak 12 RY rfl
  have r12 : ∀ y : Later V, y.w.cell? ⟨gy, 12, none⟩ = some (.int .i64 f.tun.went) := fun y => (y.b.cell (p := ⟨gy, 12, none⟩) jQ).trans wC
  have y13 := ak 13 RY rfl
  have r13 : ∀ y : Later V, y.w.cell? ⟨gy, 13, none⟩ = some (.int .i64 f.tun.came) := fun y => (y.b.cell (p := ⟨gy, 13, none⟩) jQ).trans y13
  have xZ := ak 14 RY rfl
  have r14 : ∀ y : Later V, y.w.cell? ⟨gy, 14, none⟩ = some (.bool f.ended) := fun y => (y.b.cell (p := ⟨gy, 14, none⟩) jQ).trans xZ
  clear x2 Qw y0 y1 y2 y3 y4 y5 y6 y7 y8 y9 rQ wB wC y13 xZ RY
  have gV := hide EN
  clear EN
  have abq : (i : Int) < d.reg.es.length := by omega
  try simp only [Act.put, aI, aJ, aK, aL, aM, aN]
  by_cases c0 : f.id = e.id
  rotate_left
  ·have c0' : (f.id != e.id) = true := by simpa using c0
   have HN := hide (BX.out (pz (fun h => c0 h.1)))
   clear c0
   have hne : Nonempty (Later V) := ⟨⟨V, Below.refl _ _⟩⟩; refine eH (by kernel_rfl) (by kernel_rfl) ?_
   repeat (go_big_quiet_step (fail))
   refine wpQuiet_nil ?_; intro _ hw'; obtain ⟨y, hw''⟩ := hw'; subst hw''; have hby := y.b
   go_wp2_with fail
   go_ret
   exact ⟨by rw [HN.out]; rfl, ah aC.out hby⟩
  have c0' : (f.id != e.id) = false := by simpa using c0
  have oW := hide c0
  clear c0
  cases m0 : fP f.get
  ·have HN := hide (BX.out (pz (fun h => by rw [m0] at h; simp at h)))
   have hne : Nonempty (Later V) := ⟨⟨V, Below.refl _ _⟩⟩; refine eH (by kernel_rfl) (by kernel_rfl) ?_
   repeat (go_big_quiet_step (fail))
   go_big_quiet_want; go_big_quiet_op
   refine ⟨.bool false, fun y => gD (x := y) (by have := kC f.get y.w; rw [m0] at this; exact this), ?_⟩
   go_big_quiet_on
   repeat (go_big_quiet_step (fail))
   refine wpQuiet_nil ?_; intro _ hw'; obtain ⟨y, hw''⟩ := hw'; subst hw''; have hby := y.b
   go_wp2_with fail
   go_ret
   exact ⟨by rw [HN.out]; rfl, ah aC.out hby⟩
  cases m1 : fP f.give
  ·have HN := hide (BX.out (pz (fun h => by rw [m1] at h; simp at h)))
   have hne : Nonempty (Later V) := ⟨⟨V, Below.refl _ _⟩⟩; refine eH (by kernel_rfl) (by kernel_rfl) ?_
   repeat (go_big_quiet_step (fail))
   go_big_quiet_want; go_big_quiet_op
   refine ⟨.bool true, fun y => gD (x := y) (by have := kC f.get y.w; rw [m0] at this; exact this), ?_⟩
   go_big_quiet_on
   repeat (go_big_quiet_step (fail))
   go_big_quiet_want; go_big_quiet_op
   refine ⟨.bool false, fun y => gD (x := y) (by have := kC f.give y.w; rw [m1] at this; exact this), ?_⟩
   go_big_quiet_on
   repeat (go_big_quiet_step (fail))
   refine wpQuiet_nil ?_; intro _ hw'; obtain ⟨y, hw''⟩ := hw'; subst hw''; have hby := y.b
   go_wp2_with fail
   go_ret
   exact ⟨by rw [HN.out]; rfl, ah aC.out hby⟩
  cases m2 : dZ f.fds
  ·have HN := hide (BX.out (pz (fun h => by rw [m2] at h; simp at h)))
   have hne : Nonempty (Later V) := ⟨⟨V, Below.refl _ _⟩⟩; refine eH (by kernel_rfl) (by kernel_rfl) ?_
   repeat (go_big_quiet_step (fail))
   go_big_quiet_want; go_big_quiet_op
   refine ⟨.bool true, fun y => gD (x := y) (by have := kC f.get y.w; rw [m0] at this; exact this), ?_⟩
   go_big_quiet_on
   repeat (go_big_quiet_step (fail))
   go_big_quiet_want; go_big_quiet_op
   refine ⟨.bool true, fun y => gD (x := y) (by have := kC f.give y.w; rw [m1] at this; exact this), ?_⟩
   go_big_quiet_on
   repeat (go_big_quiet_step (fail))
   go_big_quiet_want; go_big_quiet_op
   refine ⟨.bool false, fun y => gW (x := y) (by have := JN f.fds _ y.w (dM (jV.out.new y.b)) (eu (jV.out.new y.b)); rw [m2] at this; exact this), ?_⟩
   go_big_quiet_on
   repeat (go_big_quiet_step (fail))
   refine wpQuiet_nil ?_; intro _ hw'; obtain ⟨y, hw''⟩ := hw'; subst hw''; have hby := y.b
   go_wp2_with fail
   go_ret
   exact ⟨by rw [HN.out]; rfl, ah aC.out hby⟩
  cases m3 : jJ f.tun
  ·have HN := hide (BX.out (pz (fun h => by rw [m3] at h; simp at h)))
   have hne : Nonempty (Later V) := ⟨⟨V, Below.refl _ _⟩⟩; refine eH (by kernel_rfl) (by kernel_rfl) ?_
   repeat (go_big_quiet_step (fail))
   go_big_quiet_want; go_big_quiet_op
   refine ⟨.bool true, fun y => gD (x := y) (by have := kC f.get y.w; rw [m0] at this; exact this), ?_⟩
   go_big_quiet_on
   repeat (go_big_quiet_step (fail))
   go_big_quiet_want; go_big_quiet_op
   refine ⟨.bool true, fun y => gD (x := y) (by have := kC f.give y.w; rw [m1] at this; exact this), ?_⟩
   go_big_quiet_on
   repeat (go_big_quiet_step (fail))
   go_big_quiet_want; go_big_quiet_op
   refine ⟨.bool true, fun y => gW (x := y) (by have := JN f.fds _ y.w (dM (jV.out.new y.b)) (eu (jV.out.new y.b)); rw [m2] at this; exact this), ?_⟩
   go_big_quiet_on
   repeat (go_big_quiet_step (fail))
   go_big_quiet_want; go_big_quiet_op
   refine ⟨.bool false, fun y => gW (x := y) (by have := Nr f.tun y.w (by unfold maxLen; omega) (by unfold maxLen; omega); rw [m3] at this; exact this), ?_⟩
   go_big_quiet_on
   repeat (go_big_quiet_step (fail))
   refine wpQuiet_nil ?_; intro _ hw'; obtain ⟨y, hw''⟩ := hw'; subst hw''; have hby := y.b
   go_wp2_with fail
   go_ret
   exact ⟨by rw [HN.out]; rfl, ah aC.out hby⟩
  have HY := hide (HYi.out (Qr oW.out m0 m1 m2 m3))
  have hne : Nonempty (Later V) := ⟨⟨V, Below.refl _ _⟩⟩; refine eH (by kernel_rfl) (by kernel_rfl) ?_
  repeat (go_big_quiet_step (fail))
  go_big_quiet_want; go_big_quiet_op
  refine ⟨.bool true, fun y => gD (x := y) (by have := kC f.get y.w; rw [m0] at this; exact this), ?_⟩
  go_big_quiet_on
  repeat (go_big_quiet_step (fail))
  go_big_quiet_want; go_big_quiet_op
  refine ⟨.bool true, fun y => gD (x := y) (by have := kC f.give y.w; rw [m1] at this; exact this), ?_⟩
  go_big_quiet_on
  repeat (go_big_quiet_step (fail))
  go_big_quiet_want; go_big_quiet_op
  refine ⟨.bool true, fun y => gW (x := y) (by have := JN f.fds _ y.w (dM (jV.out.new y.b)) (eu (jV.out.new y.b)); rw [m2] at this; exact this), ?_⟩
  go_big_quiet_on
  repeat (go_big_quiet_step (fail))
  go_big_quiet_want; go_big_quiet_op
  refine ⟨.bool true, fun y => gW (x := y) (by have := Nr f.tun y.w (by unfold maxLen; omega) (by unfold maxLen; omega); rw [m3] at this; exact this), ?_⟩
  go_big_quiet_on
  repeat (go_big_quiet_step (fail))
  refine wpQuiet_nil ?_; intro _ hw'; obtain ⟨y, hw''⟩ := hw'; subst hw''; have hby := y.b
  replace gV := hide (gV.out.new hby)
  replace aC := hide (ah aC.out hby)
  generalize y.w = V2 at *
  clear hby hne q2 qe r0 r1 r2 r3 r4 r5 r6 r7 r8 r9 r10 r11 r12 r13 r14
  have x10 := ak 10 gV.out rfl
  go_wp2_with fail
  go_roundw
  case rel => exact ⟨i + 1, by go_num, by omega, HY, gV, aC⟩
  case measure => simp [intOf]; omega
theorem FQ {code : Int} (h : aQ code 100 999 = true) : okF (bU code) = true := by
 have hb := jm h
 have hl := GL 3 code.toNat (by omega) (by decide)
 unfold okF bU
 dsimp only
 rw [oP]
 have e1 : aQ (((⟨#[58, 115, 116, 97, 116, 117, 115]⟩ : ByteArray).size : Nat) : Int) 1 40 = true := by decide
 rw [e1, decide_eq_true (by omega)]
 rfl
theorem aaD {c : aH} {M : List Fd} (h : dV c = true) (hM : bI c.au M = true) : dV { c with outT := M } = true := by
 have h' := jI.1 h
 exact jI.2 ⟨h'.1, h'.2.1, hM, h'.2.2.2⟩
theorem aaE {f : aV} {e : aF} (h : gN f e = true) : gN (rJ f) e = true := by
 rw [Jm] at h ⊢
 refine ⟨h.1, h.2.1, h.2.2.1, h.2.2.2.1, ?_⟩
 obtain ⟨h1, h2, h3, h4⟩ := F5 h.2.2.2.2
 have p := C8 h2
 exact Vh h1 (Vg p.1 p.2.1 p.2.2.1 p.2.2.2) h3 h4
theorem TD {c : aH} {id code : Int} (h : dV c = true) : dV (jG c id code).1 = true ∧ (jG c id code = (c, []) ∨ (aQ code 100 999 = true ∧ ∃ fl body, (jG c id code).2 = [⟨2, fl, id, body⟩] ∧
  H6 c.au c.outT body = ([bU code], ((jG c id code).1.au, (jG c id code).1.outT), true) ∧ decide (code = 200) = jM (jk (jG c id code).1.reg id))) := by
 cases hq : dI c.reg.es id with
 | none => rw [F9 hq]; exact ⟨h, Or.inl rfl⟩
 | some k =>
  obtain ⟨hk, hke, hid, hfe, _, _⟩ := Zj h hq
  rw [zP hq hk hke]
  unfold rP
  by_cases hc : c.dead = true ∨ jM c.reg.es[k].state = false ∨ aQ code 100 999 = false
  ·rw [if_pos hc]; exact ⟨h, Or.inl rfl⟩
  rw [if_neg hc]
  have hcode : aQ code 100 999 = true := by cases e : aQ code 100 999 <;> simp_all
  have hms : jM c.reg.es[k].state = true := by cases e : jM c.reg.es[k].state <;> simp_all
  have h' := jI.1 h
  have hall : ∀ f ∈ [bU code], okF f = true := fun f hf => by simp at hf; rw [hf]; exact FQ hcode
  have hfs : dZ [bU code] = true := by unfold dZ; simp [FQ hcode]
  have hM := xW [bU code] h'.2.2.1 hall
  have hdec := XE h'.2.2.1 hfs
  have henc : kg c.au c.outT [bU code] = ((bA c.au c.outT [bU code]).1, (c.au, (bA c.au c.outT [bU code]).2), true) := by
   unfold kg; rw [if_pos h'.2.2.1, if_pos hfs]
  rw [henc] at hdec
  dsimp only at hdec
  have hc1 := aaD h hM
  by_cases nH : code = 200
  ·rw [if_pos nH]
   refine ⟨hc1, Or.inr ⟨hcode, 0, _, rfl, hdec, ?_⟩⟩
   rw [decide_eq_true nH]
   show true = jM (jk c.reg id)
   rw [L9 hq hke, hms]
  ·rw [if_neg nH]
   have hc2 := ZL id 3 hc1
   have h2 := jI.1 hc2
   refine ⟨jI.2 ⟨h2.1, h2.2.1, h2.2.2.1, h2.2.2.2.1, h2.2.2.2.2.1, h2.2.2.2.2.2.1, ?_⟩, Or.inr ⟨hcode, 1, _, rfl, hdec, ?_⟩⟩
   ·refine Jp ?_ (CX c.reg id 3).symm
    exact PE h'.2.2.2.2.2.2 fun _ e he => aaE he
   ·rw [decide_eq_false nH]
    show false = jM (jk (gq c.reg id 3).1 id)
    have hes : (gq c.reg id 3).1.es = c.reg.es.set k ⟨c.reg.es[k].id, (fQ c.reg.es[k].state 3).1⟩ := by rw [← hid]; exact Zo h'.1 hke 3
    have hk2 : k < (gq c.reg id 3).1.es.length := by rw [hes, List.length_set]; exact hke
    have hget : (gq c.reg id 3).1.es[k] = ⟨c.reg.es[k].id, (fQ c.reg.es[k].state 3).1⟩ := by simp only [hes]; simp
    have hat := Pb (Mc (id := id) (ev := 3) h'.1).1 hk2
    rw [hget] at hat
    dsimp only at hat
    rw [hid] at hat
    rw [L9 hat hk2, hget]
    dsimp only
    have hst : c.reg.es[k].state = 1 ∨ c.reg.es[k].state = 2 := of_decide_eq_true hms
    rcases hst with e | e <;> rw [e] <;> decide
end Go.Proofs.YtlpbnkideaojeaaGreatDoor
