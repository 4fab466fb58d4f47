/- Lemmas. -/
import Derived.Test.YtlpbnkideaojeaaGreatDoorQRpG23
namespace Go.Proofs.YtlpbnkideaojeaaGreatDoor
open Go.RowKit
set_option maxRecDepth 100000
set_option linter.unusedSimpArgs false
set_option linter.unusedVariables false
section
variable {D : Type} {E : lN D}
theorem aW.mid {w : World} {v : Value} {L : List D} {bs : List Nat} (h : aW E w v L bs) (hn : bs.Nodup) (k : Nat) (hk : k < L.length) :
  ∃ g cap cs b A C, v = .slice (some ⟨g, 0, none⟩) L.length cap ∧ g < w.heap.size ∧ g ∈ bs ∧ g ∉ b ∧ (∀ x ∈ b, x ∈ bs) ∧ E.own w cs L[k] b ∧ aj w g E.ty (A ++ cs ++ C) ∧ A.length = k * E.size ∧
   ∀ w' cs' d', aj w' g E.ty (A ++ cs' ++ C) → E.own w' cs' d' b → w.heap.size ≤ w'.heap.size → (∀ x ∈ bs, x ≠ g → w'.heap[x]? = w.heap[x]?) → aW E w' v (L.set k d') bs := by
 obtain ⟨ts, rfl, ho, hE, rfl⟩ := h
 have hk' : k < ts.length := by simpa using hk
 have hm := List.getElem_mem hk'
 have hlen : ∀ t ∈ ts, t.1.length = E.size := fun t ht => E.nT (E.nU (hE t ht))
 have hap := oG hn
 obtain ⟨hl, hr⟩ := ho
 rcases hr with ⟨hv, h0⟩ | ⟨g, cap, arr, hv, hb0, hheap, h1, h2, h3, h4⟩
 ·omega
 have hg : v.ownBlock = some g := by rw [hv]; rfl
 have hgb : g ∈ v.ownBlock.toList := by rw [hg]; simp
 have hsub : ∀ x ∈ ts[k].2.2, x ∈ ts.flatMap (·.2.2) := fun x hx => List.mem_flatMap.2 ⟨_, hm, hx⟩
 have hgn : g ∉ ts[k].2.2 := fun hx => hap g hgb (hsub g hx)
 have hoth : ∀ t ∈ ts, g ∉ t.2.2 := fun t ht hx => hap g hgb (List.mem_flatMap.2 ⟨t, ht, hx⟩)
 have hsp := DL (fun t : List Value × D × List Nat => t.1) ts k hk'
 have hA : ((ts.take k).flatMap (fun t : List Value × D × List Nat => t.1)).length = k * E.size := by
  rw [Ac (fun t : List Value × D × List Nat => t.1) E.size (ts.take k) (fun t ht => hlen t (List.mem_of_mem_take ht)), List.length_take, Nat.min_eq_left (by omega)]
 have harr : arr.toList = (ts.take k).flatMap (fun t => t.1) ++ ts[k].1 ++ ((ts.drop (k + 1)).flatMap (fun t => t.1) ++ arr.toList.drop (ts.length * E.size)) := by
  rw [← List.append_assoc, ← hsp, ← h4, List.take_append_drop]
 refine ⟨g, cap, ts[k].1, ts[k].2.2, (ts.take k).flatMap (fun t => t.1), (ts.drop (k + 1)).flatMap (fun t => t.1) ++ arr.toList.drop (ts.length * E.size), by rw [hv]; simp, (Array.getElem?_eq_some_iff.1 hheap).1, List.mem_append_left _ hgb, hgn, fun x hx => List.mem_append_right _ (hsub x hx), by simpa using hE _ hm, ?_, hA, ?_⟩
 ·show w.heap[g]? = some (.cells _ E.ty (0, 0))
  rw [hheap, ← harr]
 ·intro w' cs' d' hrow hown hs hkeep
  have hcs' : cs'.length = E.size := E.nT (E.nU hown)
  have hset : (ts.set k (cs', d', ts[k].2.2)).flatMap (fun t => t.1) = (ts.take k).flatMap (fun t => t.1) ++ cs' ++ (ts.drop (k + 1)).flatMap (fun t => t.1) := by
   rw [DL (fun t : List Value × D × List Nat => t.1) (ts.set k (cs', d', ts[k].2.2)) k (by simpa using hk')]
   simp [List.take_set_of_le, List.drop_set_of_lt]
  have Jo : ((ts.set k (cs', d', ts[k].2.2)).flatMap (fun t => t.1)).length = ts.length * E.size := by
   rw [Ac (fun t : List Value × D × List Nat => t.1) E.size (ts.set k (cs', d', ts[k].2.2)) (fun t ht => ?_), List.length_set]
   rcases List.mem_or_eq_of_mem_set ht with ht | rfl
   ·exact hlen t ht
   ·exact hcs'
  refine ⟨ts.set k (cs', d', ts[k].2.2), by rw [List.map_set], ⟨by rw [Jo, List.length_set], .inr ⟨g, cap, _, by rw [hv, List.length_set], hb0, hrow, by rw [List.length_set]; exact h1, h2, ?_, ?_⟩⟩, fun t ht => ?_, ?_⟩
  ·have e := congrArg List.length harr
   have e1 : arr.toList.length = arr.size := by simp
   have e2 : ts[k].1.length = E.size := hlen _ hm
   rw [← h3]
   simp only [List.length_append] at e
   simp only [List.size_toArray, List.length_append]
   omega
  ·have e : (ts.take k).flatMap (fun t => t.1) ++ cs' ++ ((ts.drop (k + 1)).flatMap (fun t => t.1) ++ arr.toList.drop (ts.length * E.size)) = (ts.set k (cs', d', ts[k].2.2)).flatMap (fun t => t.1) ++ arr.toList.drop (ts.length * E.size) := by rw [hset]; simp
   show List.take _ _ = _
   rw [List.length_set, e, List.take_append_of_le_length (Nat.le_of_eq Jo.symm), List.take_of_length_le (Nat.le_of_eq Jo)]
  ·obtain ⟨i, hi, rfl⟩ := List.mem_iff_getElem.1 ht
   have hi' : i < ts.length := by simpa using hi
   by_cases e : i = k
   ·subst e; simpa using hown
   ·rw [List.getElem_set_ne (by omega)]
    refine E.ji (hE _ (List.getElem_mem hi')) hs fun x hx => hkeep x (List.mem_append_right _ (List.mem_flatMap.2 ⟨_, List.getElem_mem hi', hx⟩)) fun hxg => hoth _ (List.getElem_mem hi') (hxg ▸ hx)
  ·rw [Ak (fun t : List Value × D × List Nat => t.2.2) ts k hk' (cs', d', ts[k].2.2) rfl]
end
structure cZ (w : World) (g : Nat) (d : aH) (bs : List Nat) : Prop where
 ex : ∃ ve vi vo vf, aj w g 40 (vZ d ve vi vo vf) ∧ dY w bs d ve vi vo vf
 ng : g ∉ bs
def gu (w : World) (bs bs' : List Nat) : Prop := ∀ b ∈ bs', b ∈ bs ∨ w.heap.size ≤ b
theorem gu.refl (w : World) (bs : List Nat) : gu w bs bs := fun _ h => .inl h
theorem gu.trans {w w' : World} {a b c : List Nat} (h : gu w a b) (k : gu w' b c) (hs : w.heap.size ≤ w'.heap.size) : gu w a c := fun x hx => by
 rcases k x hx with e | e
 ·exact h x e
 ·exact .inr (Nat.le_trans hs e)
theorem cZ.new {w w' : World} {g : Nat} {d : aH} {bs : List Nat} (h : cZ w g d bs) (hb : Below w.heap.size w w') : cZ w' g d bs := by
 obtain ⟨⟨ve, vi, vo, vf, h1, h2⟩, h3⟩ := h
 exact ⟨⟨ve, vi, vo, vf, h1.new hb, h2.new hb⟩, h3⟩
theorem cZ.lt {w : World} {g : Nat} {d : aH} {bs : List Nat} (h : cZ w g d bs) : g < w.heap.size := by obtain ⟨⟨_, _, _, _, h1, _⟩, _⟩ := h; exact h1.lt
theorem aG.Zr {bs bs' : List Nat} {a b c : World} (h : aG bs a b) (k : aG bs' b c) (hn : ∀ x ∈ bs', x ∈ bs ∨ a.heap.size ≤ x) : aG bs a c :=
 ⟨k.os.trans h.os, k.tape.trans h.tape, k.output.trans h.output, Nat.le_trans h.size k.size, fun i hi h' => (k.block i (Nat.lt_of_lt_of_le hi h.size) (fun hx => by rcases hn i hx with e | e; exact h' e; omega)).trans (h.block i hi h')⟩
theorem Jg {c : aH} (h : dV c = true) : c.flows.length = c.reg.es.length := Dj (jI.1 h).2.2.2.2.2.2
theorem Zt (L : List Fd) (k : Nat) (h : k < L.length) : ((fv L).set (k * 2) (.string L[k].n)).set (k * 2 + 1) (.string L[k].v) = fv L := by
 obtain ⟨s0, s1⟩ := kK L k h
 rw [Ny s0, Ny s1]
theorem Zu (v : Value) (w : World) : (Go.method 359 104 v "loop.example/g00296/impl.apart").run Tryz.prog w = .ok (165, v) w := by kernel_rfl
set_option maxHeartbeats 4000000 in
theorem Zv (L : List Fd) (v : Value) (w : World) (hr : aT bT w v L) (hok : dZ L = true) :
  Calls Tryz.prog 196 #[v] w fun x w' => ∃ v', x = .returned v' ∧ w'.ownsRow w.heap.size 104 2 v' L.length (fv L) ∧ Below w.heap.size w w' := by
 obtain ⟨aa, pa, rfl, q1, q2⟩ := hr.form
 have hall : ∀ f ∈ L, okF f = true := by unfold dZ at hok; simp only [Bool.and_eq_true] at hok; exact fun f hf => List.all_eq_true.1 hok.1 f hf
 have h20 : L.length ≤ 20 := by unfold dZ at hok; simp only [Bool.and_eq_true, decide_eq_true_eq] at hok; exact hok.2
 have HV := hide hr; have kF := hide hall
 clear hr hall hok
 have hme := Zu
 go_enter Tryz.func196, Tryz.ntmps196
 go_wp2_with fail
 refine (Zw _ L.length (fv L) _ (dM HV.out) (nV _) (by omega)).mono ?_; rintro e W1 ⟨vb, rfl, ho, hb⟩
 obtain ⟨ab, pb, rfl, p1, p2⟩ := bW ho
 have HO := hide ho; have HB := hide hb
 clear ho hb
 go_wp2_with fail
 go_loopw [10, 4, 5] (fun i _ _ wr => ∃ k : Nat, i = .int .i64 k ∧ k ≤ L.length ∧ Hid (wr.ownsRow w.heap.size 104 2 (.slice ab L.length pb) L.length (fv L)) ∧ Hid (Below w.heap.size w wr)) (fun i _ _ _ => L.length - (intOf i).toNat)
 case atStart => exact ⟨0, rfl, Nat.zero_le _, HO, HB⟩
 case round =>
  clear HO HB
  obtain ⟨k, rfl, hk, HO, HB⟩ := hrel
  by_cases hlt : k < L.length
  rotate_left
  ·have Bz : ¬ (k : Int) < L.length := by omega
   go_wp2_with fail
   go_ret
   exact ⟨_, rfl, HO.out, HB.out⟩
  ·have Bz : (k : Int) < L.length := by omega
   obtain ⟨gc, cap2, BA, Ey, hlo, Zx, _, _, _⟩ := qx HO.out (by omega)
   simp only [Value.slice.injEq, true_and] at BA
   obtain ⟨rfl, rfl⟩ := BA
   obtain ⟨s0, s1⟩ := kK L k hlt
   have vX : (fv L).length = L.length * 2 := gY _
   have c0 : wr.cell? ⟨gc, k * 2, none⟩ = some (.string L[k].n) := by rw [HO.out.cellAt _ (by omega)]; exact s0
   have c1 : wr.cell? ⟨gc, k * 2 + 1, none⟩ = some (.string L[k].v) := by rw [HO.out.cellAt _ (by omega)]; exact s1
   have Pg := hide (Zt L k hlt)
   have Ph := kF.out _ (List.getElem_mem hlt)
   obtain ⟨y, hy⟩ : ∃ y, L[k] = y := ⟨_, rfl⟩
   rw [hy] at c0 c1 Pg Ph s0 s1
   have Pj := hide (And.intro s0 s1)
   clear s0 s1 hy vX
   go_upto_region 5 with fail
   have hX : Below wr.heap.size wr (wr.alloc (.cells #[.string y.n, .string y.v] 104)) := (Below.refl _ _).alloc (Nat.le_refl _) _
   have RX := aB wr 104 [.string y.n, .string y.v]
   replace HO := hide (aX HO.out hX)
   replace HB := hide (ah HB.out hX)
   clear c0 c1 hX Zx
   generalize wr.heap.size = ge at *
   generalize wr.alloc (.cells #[.string y.n, .string y.v] 104) = X at *
   have x0 := RX.cell (j := 0) rfl
   have x1 := RX.cell (j := 1) rfl
   have xl := RX.lt
   go_wp2_with fail
   refine (AU y _ Ph).mono ?_; rintro e w3 ⟨rfl, hb3⟩
   replace HO := hide (aX HO.out hb3)
   replace HB := hide (ah HB.out hb3)
   clear x0 x1 xl RX hb3
   have vX : (fv L).length = L.length * 2 := gY _
   have c0 : w3.cell? ⟨gc, k * 2, none⟩ = some (.string y.n) := by rw [HO.out.cellAt _ (by omega)]; exact Pj.out.1
   have c1 : w3.cell? ⟨gc, k * 2 + 1, none⟩ = some (.string y.v) := by rw [HO.out.cellAt _ (by omega)]; exact Pj.out.2
   have zf := fun j => HO.out.frozenAt j
   have zl := (iV HO.out gc rfl).2
   have ho3 := mI (mI HO.out (g := gc) rfl (k * 2) (.string y.n)) (g := gc) rfl (k * 2 + 1) (.string y.v)
   rw [Pg.out] at ho3
   have lK := hide ho3
   have HB3 := hide ((HB.out.setCell (p := ⟨gc, k * 2, none⟩) hlo (.string y.n)).setCell (p := ⟨gc, k * 2 + 1, none⟩) hlo (.string y.v))
   clear ho3 vX
   go_wp2_with fail
   go_roundw
   case rel => exact ⟨k + 1, by go_num, by omega, lK, HB3⟩
   case measure => simp [intOf]; omega
theorem aW.apart {D : Type} {E : lN D} {w w' : World} {v : Value} {L : List D} {bs bs' : List Nat} (h : aW E w v L bs) (ht : aG bs' w w') (ha : ∀ x ∈ bs, x ∉ bs') : aW E w' v L bs := h.keep ht.size (fun b hb => ht.block b (h.lt b hb) (ha b hb))
set_option maxHeartbeats 4000000 in
theorem Kv (d : aH) (ve vi vo vf : Value) (k : Nat) (bs : List Nat) (w : World) (ho : dY w bs d ve vi vo vf) (hk1 : k + lG d ≤ 1000000000) :
  Calls Tryz.prog 10 #[bH d ve vi vo vf, .int .i64 k] w fun x w' => x = .returned (.int .i64 ((k + lG d : Nat) : Int)) ∧ dY w' bs (BD d k) ve vi vo vf ∧ aG bs w w' := by
 dsimp only [bH] at *
 obtain ⟨⟨be, bi, bo, bf, h1, h2, h3, h4, rfl⟩, hn⟩ := ho
 obtain ⟨ae, pe, rfl, _⟩ := h1.rd.form
 obtain ⟨ai, pi, rfl, _⟩ := h2.rd.form
 obtain ⟨ao, po, rfl, _⟩ := h3.rd.form
 obtain ⟨af, pf, rfl, _⟩ := h4.rd.form
 have hd : (∀ x ∈ be, x ∉ bi ∧ x ∉ bo ∧ x ∉ bf) ∧ (∀ x ∈ bi, x ∉ be ∧ x ∉ bo ∧ x ∉ bf) ∧ (∀ x ∈ bo, x ∉ be ∧ x ∉ bi ∧ x ∉ bf) ∧ (∀ x ∈ bf, x ∉ be ∧ x ∉ bi ∧ x ∉ bo) := by
  simp only [List.nodup_append, List.mem_append] at hn
  obtain ⟨⟨⟨n1, n2, n3⟩, n4, n5⟩, n6, n7⟩ := hn
  exact ⟨fun x hx => ⟨fun h => n3 x hx x h rfl, fun h => n5 x (.inl hx) x h rfl, fun h => n7 x (.inl (.inl hx)) x h rfl⟩, fun x hx => ⟨fun h => n3 x h x hx rfl, fun h => n5 x (.inr hx) x h rfl, fun h => n7 x (.inl (.inr hx)) x h rfl⟩,
   fun x hx => ⟨fun h => n5 x (.inl h) x hx rfl, fun h => n5 x (.inr h) x hx rfl, fun h => n7 x (.inr hx) x h rfl⟩, fun x hx => ⟨fun h => n7 x (.inl (.inl h)) x hx rfl, fun h => n7 x (.inl (.inr h)) x hx rfl, fun h => n7 x (.inr h) x hx rfl⟩⟩
 have hnn : be.Nodup ∧ bi.Nodup ∧ bo.Nodup ∧ bf.Nodup := by
  simp only [List.nodup_append] at hn
  obtain ⟨⟨⟨n1, n2, n3⟩, n4, n5⟩, n6, n7⟩ := hn
  exact ⟨n1, n2, n4, n6⟩
 obtain ⟨d1, d2, d3, d4⟩ := hd
 have HD1 := hide d1; have HD2 := hide d2; have HD3 := hide d3; have HD4 := hide d4; have HN := hide hn
 obtain ⟨m1, m2, m3, m4⟩ := hnn
 have Zy := hide m1; have Zz := hide m4
 clear d1 d2 d3 d4 hn m1 m2 m3 m4
 have hlt : ∀ b, b = w.heap.size → b ∉ be ∧ b ∉ bi ∧ b ∉ bo ∧ b ∉ bf := fun b e => ⟨fun h => by have := h1.lt b h; omega, fun h => by have := h2.lt b h; omega, fun h => by have := h3.lt b h; omega, fun h => by have := h4.lt b h; omega⟩
 obtain ⟨l1, l2, l3, l4⟩ := hlt _ rfl
 have HL := hide (And.intro l1 (And.intro l2 (And.intro l3 l4)))
 clear l1 l2 l3 l4 hlt
 have RX := aB w 40 [.int .i64 d.reg.lim, .int .i64 d.reg.top, .slice ae d.reg.es.length pe, .int .i64 d.inr, .slice ai d.inT.length pi, .int .i64 d.au, .slice ao d.outT.length po, .int .i64 d.get, .int .i64 d.give, .int .i64 d.first, .slice af d.flows.length pf, .bool d.away, .bool d.dead]
 have hbx : Below w.heap.size w (w.alloc (.cells #[.int .i64 d.reg.lim, .int .i64 d.reg.top, .slice ae d.reg.es.length pe, .int .i64 d.inr, .slice ai d.inT.length pi, .int .i64 d.au, .slice ao d.outT.length po, .int .i64 d.get, .int .i64 d.give, .int .i64 d.first, .slice af d.flows.length pf, .bool d.away, .bool d.dead] 40)) := (Below.refl _ _).alloc (Nat.le_refl _) _
 replace h1 := hide (h1.keep hbx.size (fun b hb => hbx.block b (h1.lt b hb)))
 replace h2 := hide (h2.keep hbx.size (fun b hb => hbx.block b (h2.lt b hb)))
 replace h3 := hide (h3.keep hbx.size (fun b hb => hbx.block b (h3.lt b hb)))
 replace h4 := hide (h4.keep hbx.size (fun b hb => hbx.block b (h4.lt b hb)))
 have HT : Hid (aG (be ++ bi ++ bo ++ bf) w (w.alloc (.cells #[.int .i64 d.reg.lim, .int .i64 d.reg.top, .slice ae d.reg.es.length pe, .int .i64 d.inr, .slice ai d.inT.length pi, .int .i64 d.au, .slice ao d.outT.length po, .int .i64 d.get, .int .i64 d.give, .int .i64 d.first, .slice af d.flows.length pf, .bool d.away, .bool d.dead] 40))) := aG.new hbx
 clear hbx
 unfold lG at hk1 ⊢
 obtain ⟨K1, hK1⟩ : ∃ K1, k + iW d.reg.es = K1 := ⟨_, rfl⟩
 obtain ⟨K2, hK2⟩ : ∃ K2, K1 + av d.inT = K2 := ⟨_, rfl⟩
 obtain ⟨K3, hK3⟩ : ∃ K3, K2 + av d.outT = K3 := ⟨_, rfl⟩
 obtain ⟨K4, hK4⟩ : ∃ K4, K3 + lM d.flows = K4 := ⟨_, rfl⟩
 rw [show k + (iW d.reg.es + av d.inT + av d.outT + lM d.flows) = K4 by omega]
 have HK : Hid (BD d k = ⟨⟨d.reg.lim, d.reg.top, rV d.reg.es k⟩, d.inr, bQ d.inT K1, d.au, bQ d.outT K2, d.get, d.give, d.first, wo d.flows K3, d.away, d.dead⟩) := by show _ = _; unfold BD; rw [hK1, hK2, hK3]
 go_enter Tryz.func10, Tryz.ntmps10
 obtain ⟨x0, x1, x2⟩ := jZ RX
 go_wp2_with fail
 clear x0 x1 x2
 have hcl := UM d.reg _ k be _ h1.out Zy.out (by omega)
 rw [hK1] at hcl
 refine hcl.mono ?_; clear hcl
 rintro x u0 ⟨rfl, ho, ht⟩
 replace h2 := hide (h2.out.apart ht (fun x hx => (HD2.out x hx).1))
 replace h3 := hide (h3.out.apart ht (fun x hx => (HD3.out x hx).1))
 replace h4 := hide (h4.out.apart ht (fun x hx => (HD4.out x hx).1))
 replace h1 := hide ho
 replace RX := RX.kept (ht.block _ RX.lt HL.out.1)
 replace HT := hide (HT.out.trans (ht.wide (fun x hx => by simp [hx])))
 clear ho ht
 have x3 := ak 3 RX rfl
 have x4 := ak 4 RX rfl
 go_wp2_with fail
 clear x3 x4
 have hcl := Pk d.inT d.inr K1 _ bi _ h2.out (by omega)
 rw [hK2] at hcl
 refine hcl.mono ?_; clear hcl
 rintro x u1 ⟨rfl, ho, ht⟩
 replace h1 := hide (h1.out.apart ht (fun x hx => (HD1.out x hx).1))
 replace h3 := hide (h3.out.apart ht (fun x hx => (HD3.out x hx).2.1))
 replace h4 := hide (h4.out.apart ht (fun x hx => (HD4.out x hx).2.1))
 replace h2 := hide ho
 replace RX := RX.kept (ht.block _ RX.lt HL.out.2.1)
 replace HT := hide (HT.out.trans (ht.wide (fun x hx => by simp [hx])))
 clear ho ht
 have x5 := ak 5 RX rfl
 have x6 := ak 6 RX rfl
 go_wp2_with fail
 clear x5 x6
 have hcl := Pk d.outT d.au K2 _ bo _ h3.out (by omega)
 rw [hK3] at hcl
 refine hcl.mono ?_; clear hcl
 rintro x u2 ⟨rfl, ho, ht⟩
 replace h1 := hide (h1.out.apart ht (fun x hx => (HD1.out x hx).2.1))
 replace h2 := hide (h2.out.apart ht (fun x hx => (HD2.out x hx).2.1))
 replace h4 := hide (h4.out.apart ht (fun x hx => (HD4.out x hx).2.2))
 replace h3 := hide ho
 replace RX := RX.kept (ht.block _ RX.lt HL.out.2.2.1)
 replace HT := hide (HT.out.trans (ht.wide (fun x hx => by simp [hx])))
 clear ho ht
 have x10 := ak 10 RX rfl
 go_wp2_with fail
 clear x10
 have hcl := ZA d.flows K3 _ bf _ h4.out Zz.out (by omega)
 rw [hK4] at hcl
 refine hcl.mono ?_; clear hcl
 rintro x u3 ⟨rfl, ho, ht⟩
 replace h1 := hide (h1.out.apart ht (fun x hx => (HD1.out x hx).2.2))
 replace h2 := hide (h2.out.apart ht (fun x hx => (HD2.out x hx).2.2))
 replace h3 := hide (h3.out.apart ht (fun x hx => (HD3.out x hx).2.2))
 replace h4 := hide ho
 replace RX := RX.kept (ht.block _ RX.lt HL.out.2.2.2)
 replace HT := hide (HT.out.trans (ht.wide (fun x hx => by simp [hx])))
 clear ho ht
 go_wp2_with fail
 go_ret
 rw [HK.out]
 exact ⟨rfl, ⟨⟨be, bi, bo, bf, h1.out, h2.out, h3.out, h4.out, rfl⟩, HN.out⟩, HT.out⟩
set_option maxHeartbeats 4000000 in
theorem Kw (d q : aH) (ve vi vo vf : Value) (k : Nat) (w : World) (hr : je w (BD q k) ve vi vo vf) (hk1 : k + lG q ≤ 1000000000) :
  Calls Tryz.prog 12 #[bH d ve vi vo vf, .int .i64 k] w fun x w' => x = .returned (.int .i64 ((k + lG q : Nat) : Int)) ∧ Below w.heap.size w w' := by
 dsimp only [bH] at *
 unfold lG at hk1 ⊢
 obtain ⟨K1, hK1⟩ : ∃ K1, k + iW q.reg.es = K1 := ⟨_, rfl⟩
 obtain ⟨K2, hK2⟩ : ∃ K2, K1 + av q.inT = K2 := ⟨_, rfl⟩
 obtain ⟨K3, hK3⟩ : ∃ K3, K2 + av q.outT = K3 := ⟨_, rfl⟩
 obtain ⟨K4, hK4⟩ : ∃ K4, K3 + lM q.flows = K4 := ⟨_, rfl⟩
 rw [show k + (iW q.reg.es + av q.inT + av q.outT + lM q.flows) = K4 by omega]
 have he := hide hr.e
 have hi := hide hr.i
 have ho := hide hr.o
 have hf := hide hr.f
 clear hr
 unfold BD at he hi ho hf
 dsimp only at he hi ho hf
 rw [hK1] at hi
 rw [hK1, hK2] at ho
 rw [hK1, hK2, hK3] at hf
 obtain ⟨ae, pe, rfl, _⟩ := he.out.form
 obtain ⟨ai, pi, rfl, _⟩ := hi.out.form
 obtain ⟨ao, po, rfl, _⟩ := ho.out.form
 obtain ⟨af, pf, rfl, _⟩ := hf.out.form
 obtain ⟨ne, hne⟩ : ∃ n, n = (rV q.reg.es k).length := ⟨_, rfl⟩
 rw [← hne] at he ⊢
 clear hne
 obtain ⟨ni, hni⟩ : ∃ n, n = (bQ q.inT K1).length := ⟨_, rfl⟩
 rw [← hni] at hi ⊢
 clear hni
 obtain ⟨no, hno⟩ : ∃ n, n = (bQ q.outT K2).length := ⟨_, rfl⟩
 rw [← hno] at ho ⊢
 clear hno
 obtain ⟨nf, hnf⟩ : ∃ n, n = (wo q.flows K3).length := ⟨_, rfl⟩
 rw [← hnf] at hf ⊢
 clear hnf
 have nk := hide hK1; have xE := hide hK2; have Pm := hide hK3; have Pn := hide hK4
 have b1 : K1 ≤ 1000000000 := by omega
 have b2 : K2 ≤ 1000000000 := by omega
 have b3 : K3 ≤ 1000000000 := by omega
 have b4 : K4 ≤ 1000000000 := by omega
 clear hK1 hK2 hK3 hK4 hk1
 have RX := aB w 40 [.int .i64 d.reg.lim, .int .i64 d.reg.top, .slice ae ne pe, .int .i64 d.inr, .slice ai ni pi, .int .i64 d.au, .slice ao no po, .int .i64 d.get, .int .i64 d.give, .int .i64 d.first, .slice af nf pf, .bool d.away, .bool d.dead]
 have HB : Below w.heap.size w (w.alloc (.cells #[.int .i64 d.reg.lim, .int .i64 d.reg.top, .slice ae ne pe, .int .i64 d.inr, .slice ai ni pi, .int .i64 d.au, .slice ao no po, .int .i64 d.get, .int .i64 d.give, .int .i64 d.first, .slice af nf pf, .bool d.away, .bool d.dead] 40)) := (Below.refl _ _).alloc (Nat.le_refl _) _
 go_enter Tryz.func12, Tryz.ntmps12
 obtain ⟨x0, x1, x2⟩ := jZ RX
 have xf := fun j => aj.frozen RX j
 have xl := RX.lt
 go_wp2_with fail
 clear x0 x1 x2 xf xl
 have hcl := UO ⟨d.reg.lim, d.reg.top, []⟩ _ k _ q.reg.es (he.out.new HB) (by rw [nk.out]; exact b1)
 rw [nk.out] at hcl
 refine hcl.mono ?_; clear hcl
 rintro x u0 ⟨rfl, hb⟩
 have hp0 : ¬ ((K1 : Nat) : Int) < 0 := by omega
 replace RX := RX.new hb
 replace HB := ah HB hb
 clear hb
 have x3 := ak 3 RX rfl
 have x4 := ak 4 RX rfl
 have xf := fun j => aj.frozen RX j
 have xl := RX.lt
 go_wp2_with fail
 clear x3 x4 xf xl
 have hcl := Po q.inT d.inr K1 _ _ (hi.out.new HB) (by rw [xE.out]; exact b2)
 rw [xE.out] at hcl
 refine hcl.mono ?_; clear hcl
 rintro x u1 ⟨rfl, hb⟩
 have hp1 : ¬ ((K2 : Nat) : Int) < 0 := by omega
 replace RX := RX.new hb
 replace HB := ah HB hb
 clear hb
 have x5 := ak 5 RX rfl
 have x6 := ak 6 RX rfl
 have xf := fun j => aj.frozen RX j
 have xl := RX.lt
 go_wp2_with fail
 clear x5 x6 xf xl
 have hcl := Po q.outT d.au K2 _ _ (ho.out.new HB) (by rw [Pm.out]; exact b3)
 rw [Pm.out] at hcl
 refine hcl.mono ?_; clear hcl
 rintro x u2 ⟨rfl, hb⟩
 have hp2 : ¬ ((K3 : Nat) : Int) < 0 := by omega
 replace RX := RX.new hb
 replace HB := ah HB hb
 clear hb
 have x10 := ak 10 RX rfl
 have xf := fun j => aj.frozen RX j
 have xl := RX.lt
 go_wp2_with fail
 clear x10 xf xl
 have hcl := ZB q.flows K3 _ _ (hf.out.new HB) (by rw [Pn.out]; exact b4)
 rw [Pn.out] at hcl
 refine hcl.mono ?_; clear hcl
 rintro x u3 ⟨rfl, hb⟩
 have hp3 : ¬ ((K4 : Nat) : Int) < 0 := by omega
 replace RX := RX.new hb
 replace HB := ah HB hb
 clear hb
 go_wp2_with fail
 go_ret
 exact ⟨rfl, HB⟩
section
open Go.ChangeShapes Go.WideShapes Go.ChangeAt Go.Joins
variable {H : Type} {enc : TypeId × Value → H} {W : World} {base : Nat} {spare : Nat → Bool} {held : Bool}
theorem xg {t : TypeId} {fs : Array Field} {fuel : Nat} {cs : List Value} {x : DataW H × List MemPlace} (ht : Tryz.prog.underlying t = some (.struct fs)) (h : DataW.trod enc Tryz.prog W base spare held fuel t cs = some x) :
  ∃ n, cs.length = Tryz.prog.cellsOf t ∧ ∀ f ∈ fs.toList, ∃ y, DataW.trod enc Tryz.prog W base spare held n f.type ((cs.drop f.offset).take (Tryz.prog.cellsOf f.type)) = some y := by
 obtain ⟨xs, n, _, _, hl, hlen, hf⟩ := DataW.trod_struct ht h
 refine ⟨n, hl, fun f hm => ?_⟩
 obtain ⟨i, hi'⟩ := List.getElem?_of_mem hm
 have hi : fs[i]? = some f := by rw [← Array.getElem?_toList]; exact hi'
 have hi2 : i < xs.length := by rw [hlen]; exact (Array.getElem?_eq_some_iff.1 hi).1
 exact ⟨xs[i], by rw [hf i f hi]; simp [hi2]⟩
theorem ZC {α : Type} {cs : List α} (h : cs.length = 13) : ∃ c0 c1 c2 c3 c4 c5 c6 c7 c8 c9 c10 c11 c12, cs = [c0, c1, c2, c3, c4, c5, c6, c7, c8, c9, c10, c11, c12] := by
 match cs, h with
 | [c0, c1, c2, c3, c4, c5, c6, c7, c8, c9, c10, c11, c12], _ => exact ⟨c0, c1, c2, c3, c4, c5, c6, c7, c8, c9, c10, c11, c12, rfl⟩
theorem ZE {α : Type} {cs : List α} (h : cs.length = 15) : ∃ c0 c1 c2 c3 c4 c5 c6 c7 c8 c9 c10 c11 c12 c13 c14, cs = [c0, c1, c2, c3, c4, c5, c6, c7, c8, c9, c10, c11, c12, c13, c14] := by
 match cs, h with
 | [c0, c1, c2, c3, c4, c5, c6, c7, c8, c9, c10, c11, c12, c13, c14], _ => exact ⟨c0, c1, c2, c3, c4, c5, c6, c7, c8, c9, c10, c11, c12, c13, c14, rfl⟩
theorem Pp {n : Nat} {c0 c1 c2 c3 : Value} {y : DataW H × List MemPlace} (h : DataW.trod enc Tryz.prog W base spare held n 81 [c0, c1, c2, c3] = some y) :
  ∃ p : qz, p.b.size ≤ 9223372036854775807 ∧ c0 = .int .i64 p.r ∧ c1 = .string p.b ∧ c2 = .bool p.e ∧ c3 = .bool p.k := by
 obtain ⟨m, _, hf⟩ := xg Tryz.underlying81 h
 simp only [List.forall_mem_cons, List.not_mem_nil, false_imp_iff, implies_true, and_true] at hf
 obtain ⟨⟨y0, h0⟩, ⟨y1, h1⟩, ⟨y2, h2⟩, ⟨y3, h3⟩⟩ := hf
 have k0 : Tryz.prog.cellsOf 2 = 1 := by kernel_rfl
 have k1 : Tryz.prog.cellsOf 9 = 1 := by kernel_rfl
 have k2 : Tryz.prog.cellsOf 4 = 1 := by kernel_rfl
 simp only [k0, k1, k2, List.drop_zero, List.drop_succ_cons, List.take_succ_cons, List.take_zero] at h0 h1 h2 h3
 obtain ⟨a, e0, _, wa⟩ := DataW.trod_int Tryz.underlying2 h0
 obtain ⟨s, e1, _, ws⟩ := DataW.trod_string Tryz.underlying9 h1
 obtain ⟨x, e2, _⟩ := DataW.trod_bool Tryz.underlying4 h2
 obtain ⟨z, e3, _⟩ := DataW.trod_bool Tryz.underlying4 h3
 simp at e0 e1 e2 e3
 exact ⟨⟨a, s, x, z⟩, by unfold maxLen at ws; simp only; omega, e0, e1, e2, e3⟩
theorem ZF {n : Nat} {c0 c1 c2 c3 c4 c5 c6 c7 c8 c9 : Value} {y : DataW H × List MemPlace} (h : DataW.trod enc Tryz.prog W base spare held n 83 [c0, c1, c2, c3, c4, c5, c6, c7, c8, c9] = some y) :
  ∃ t : jh, t.up.b.size ≤ 9223372036854775807 ∧ t.dn.b.size ≤ 9223372036854775807 ∧ [c0, c1, c2, c3, c4, c5, c6, c7, c8, c9] = rW t := by
 obtain ⟨m, _, hf⟩ := xg Tryz.underlying83 h
 simp only [List.forall_mem_cons, List.not_mem_nil, false_imp_iff, implies_true, and_true] at hf
 obtain ⟨⟨y0, h0⟩, ⟨y1, h1⟩, ⟨y2, h2⟩, ⟨y3, h3⟩⟩ := hf
 have k0 : Tryz.prog.cellsOf 2 = 1 := by kernel_rfl
 have k1 : Tryz.prog.cellsOf 81 = 4 := by kernel_rfl
 simp only [k0, k1, List.drop_zero, List.drop_succ_cons, List.take_succ_cons, List.take_zero] at h0 h1 h2 h3
 obtain ⟨p1, q1, rfl, rfl, rfl, rfl⟩ := Pp h0
 obtain ⟨p2, q2, rfl, rfl, rfl, rfl⟩ := Pp h1
 obtain ⟨a, e0, _, wa⟩ := DataW.trod_int Tryz.underlying2 h2
 obtain ⟨a', e1, _, wa'⟩ := DataW.trod_int Tryz.underlying2 h3
 simp at e0 e1
 subst e0 e1
 exact ⟨⟨p1, p2, a, a'⟩, q1, q2, rfl⟩
theorem ZG {fuel : Nat} {cs : List Value} {x : DataW H × List MemPlace} (h : DataW.trod enc Tryz.prog W base spare held fuel 85 cs = some x) : ∃ d : aV, bF.rd W cs d := by
 obtain ⟨m, hl, hf⟩ := xg Tryz.underlying85 h
 have hc : Tryz.prog.cellsOf 85 = 15 := by kernel_rfl
 obtain ⟨c0, c1, c2, c3, c4, c5, c6, c7, c8, c9, c10, c11, c12, c13, c14, rfl⟩ := ZE (hl.trans hc)
 simp only [List.forall_mem_cons, List.not_mem_nil, false_imp_iff, implies_true, and_true] at hf
 obtain ⟨⟨y0, h0⟩, ⟨y1, h1⟩, ⟨y2, h2⟩, ⟨y3, h3⟩, ⟨y4, h4⟩, ⟨y5, h5⟩⟩ := hf
 have k0 : Tryz.prog.cellsOf 2 = 1 := by kernel_rfl
 have k1 : Tryz.prog.cellsOf 25 = 1 := by kernel_rfl
 have k2 : Tryz.prog.cellsOf 83 = 10 := by kernel_rfl
 have k3 : Tryz.prog.cellsOf 4 = 1 := by kernel_rfl
 simp only [k0, k1, k2, k3, List.drop_zero, List.drop_succ_cons, List.take_succ_cons, List.take_zero] at h0 h1 h2 h3 h4 h5
 obtain ⟨i0, e0, _⟩ := DataW.trod_int Tryz.underlying2 h0
 obtain ⟨i1, e1, _⟩ := DataW.trod_int Tryz.underlying2 h1
 obtain ⟨i2, e2, _⟩ := DataW.trod_int Tryz.underlying2 h2
 obtain ⟨L3, hL3⟩ := Ae (E := bT) ⟨⟨#[]⟩, ⟨#[]⟩⟩ Tryz.underlying25 (by kernel_rfl) (fun cs n y hy => Ho hy) h3
 obtain ⟨t, t1, t2, et⟩ := ZF h4
 obtain ⟨i5, e5, _⟩ := DataW.trod_bool Tryz.underlying4 h5
 simp only [List.cons.injEq, and_true] at e0 e1 e2 e5 et
 obtain ⟨rfl, rfl, rfl, rfl, rfl, rfl, rfl, rfl, rfl, rfl⟩ := et
 subst e0 e1 e2 e5
 exact ⟨⟨i0, i1, i2, L3, t, i5⟩, c3, rfl, t1, t2, hL3⟩
theorem RV {v : Value} {d : DataW H} {p : List MemPlace} (hv : Value.okWide Tryz.prog W .any base 30 v)
  (h : DataW.Trod enc Tryz.prog W 0 (fun _ => true) true 30 v d p) : ∃ (d : aH) (ve vi vo vf : Value), v = bH d ve vi vo vf ∧ je W d ve vi vo vf := by
 obtain ⟨cs, rfl, hsz⟩ := okWide_struct Tryz.underlying30 hv
 have hc : Tryz.prog.cellsOf 30 = 13 := by kernel_rfl
 obtain ⟨fuel, hfu⟩ := h
 obtain ⟨l⟩ := cs
 obtain ⟨c0, c1, c2, c3, c4, c5, c6, c7, c8, c9, c10, c11, c12, rfl⟩ := ZC (show l.length = 13 from hsz.trans hc)
 obtain ⟨m, hl, hf⟩ := xg Tryz.underlying30 hfu
 simp only [List.forall_mem_cons, List.not_mem_nil, false_imp_iff, implies_true, and_true] at hf
 obtain ⟨⟨y0, h0⟩, ⟨y1, h1⟩, ⟨y2, h2⟩, ⟨y3, h3⟩, ⟨y4, h4⟩, ⟨y5, h5⟩, ⟨y6, h6⟩, ⟨y7, h7⟩, ⟨y8, h8⟩⟩ := hf
 have k0 : Tryz.prog.cellsOf 2 = 1 := by kernel_rfl
 have k1 : Tryz.prog.cellsOf 24 = 3 := by kernel_rfl
 have k2 : Tryz.prog.cellsOf 27 = 2 := by kernel_rfl
 have k3 : Tryz.prog.cellsOf 4 = 1 := by kernel_rfl
 have k4 : Tryz.prog.cellsOf 28 = 1 := by kernel_rfl
 have k5 : Tryz.prog.cellsOf 22 = 1 := by kernel_rfl
 have k6 : Tryz.prog.cellsOf 25 = 1 := by kernel_rfl
 simp only [Value.cells, k0, k1, k2, k3, k4, List.drop_zero, List.drop_succ_cons, List.take_succ_cons, List.take_zero] at h0 h1 h2 h3 h4 h5 h6 h7 h8
 obtain ⟨m0, _, g0⟩ := xg Tryz.underlying24 h0
 simp only [List.forall_mem_cons, List.not_mem_nil, false_imp_iff, implies_true, and_true] at g0
 obtain ⟨⟨z0, j0⟩, ⟨z1, j1⟩, ⟨z2, j2⟩⟩ := g0
 simp only [k0, k5, List.drop_zero, List.drop_succ_cons, List.take_succ_cons, List.take_zero] at j0 j1 j2
 obtain ⟨a0, e0, _⟩ := DataW.trod_int Tryz.underlying2 j0
 obtain ⟨a1, e1, _⟩ := DataW.trod_int Tryz.underlying2 j1
 obtain ⟨Le, ZH⟩ := Ae (E := bE) ⟨0, 0⟩ Tryz.underlying22 (by kernel_rfl) (fun cs n y hy => Wq hy) j2
 obtain ⟨m1, _, g1⟩ := xg Tryz.underlying27 h1
 simp only [List.forall_mem_cons, List.not_mem_nil, false_imp_iff, implies_true, and_true] at g1
 obtain ⟨⟨z3, j3⟩, ⟨z4, j4⟩⟩ := g1
 simp only [k0, k6, List.drop_zero, List.drop_succ_cons, List.take_succ_cons, List.take_zero] at j3 j4
 obtain ⟨a3, e3, _⟩ := DataW.trod_int Tryz.underlying2 j3
 obtain ⟨Li, ZI⟩ := Ae (E := bT) ⟨⟨#[]⟩, ⟨#[]⟩⟩ Tryz.underlying25 (by kernel_rfl) (fun cs n y hy => Ho hy) j4
 obtain ⟨m2, _, g2⟩ := xg Tryz.underlying27 h2
 simp only [List.forall_mem_cons, List.not_mem_nil, false_imp_iff, implies_true, and_true] at g2
 obtain ⟨⟨z5, j5⟩, ⟨z6, j6⟩⟩ := g2
 simp only [k0, k6, List.drop_zero, List.drop_succ_cons, List.take_succ_cons, List.take_zero] at j5 j6
 obtain ⟨a5, e5, _⟩ := DataW.trod_int Tryz.underlying2 j5
 obtain ⟨Lo, hLo⟩ := Ae (E := bT) ⟨⟨#[]⟩, ⟨#[]⟩⟩ Tryz.underlying25 (by kernel_rfl) (fun cs n y hy => Ho hy) j6
 obtain ⟨a7, e7, _⟩ := DataW.trod_int Tryz.underlying2 h3
 obtain ⟨a8, e8, _⟩ := DataW.trod_int Tryz.underlying2 h4
 obtain ⟨a9, e9, _⟩ := DataW.trod_int Tryz.underlying2 h5
 obtain ⟨Lf, ZJ⟩ := Ae (E := bF) ⟨0, 0, 0, [], Vf, false⟩ Tryz.underlying28 (by kernel_rfl) (fun cs n y hy => ZG hy) h6
 obtain ⟨b11, e11, _⟩ := DataW.trod_bool Tryz.underlying4 h7
 obtain ⟨b12, e12, _⟩ := DataW.trod_bool Tryz.underlying4 h8
 simp only [List.cons.injEq, and_true] at e0 e1 e3 e5 e7 e8 e9 e11 e12
 subst e0 e1 e3 e5 e7 e8 e9 e11 e12
 exact ⟨⟨⟨a0, a1, Le⟩, a3, Li, a5, Lo, a7, a8, a9, Lf, b11, b12⟩, c2, c4, c6, c10, rfl, ZH, ZI, hLo, ZJ⟩
end
end Go.Proofs.YtlpbnkideaojeaaGreatDoor
