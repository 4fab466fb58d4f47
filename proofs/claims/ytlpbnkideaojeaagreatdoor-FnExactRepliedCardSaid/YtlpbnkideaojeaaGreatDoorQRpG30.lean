/- Lemmas. -/
import Derived.Test.YtlpbnkideaojeaaGreatDoorQRpG29
namespace Go.Proofs.YtlpbnkideaojeaaGreatDoor
open Go.RowKit
set_option maxRecDepth 100000
set_option linter.unusedSimpArgs false
set_option linter.unusedVariables false
structure Here (w : World) (g : Nat) (bs : List Nat) (f : Fr) (W : World) (C : aH) (bx : List Nat) : Prop where
 c : cZ W g C bx
 t : aG (g :: bs) w W
 n : gu w bs bx
 r : aj W w.heap.size 72 [.int .i64 f.k, .int .i64 f.fl, .int .i64 f.st, .string f.b]
 x : w.heap.size ∉ g :: bx
section
variable {w W W' : World} {g : Nat} {bs bx : List Nat} {f : Fr} {C : aH}
theorem Here.new (h : Here w g bs f W C bx) (hb : Below W.heap.size W W') : Here w g bs f W' C bx := ⟨h.c.new hb, h.t.trans (aG.new hb), h.n, h.r.new hb, h.x⟩
theorem Here.lt (h : Here w g bs f W C bx) : w.heap.size < W.heap.size := h.r.lt
theorem Here.turn (h : Here w g bs f W C bx) {C' : aH} {wh : List Nat} (hc : cZ W' g C' wh) (ht : aG (g :: bx) W W') (hn : gu W bx wh) : Here w g bs f W' C' wh :=
 ⟨hc, h.t.then h.n ht, h.n.trans hn h.t.size, h.r.kept (ht.block _ h.r.lt h.x), fun hx => by
  rcases List.mem_cons.1 hx with e | e
  ·exact h.x (by simp [e])
  ·rcases hn _ e with e | e
   ·exact h.x (by simp [e])
   ·have := h.lt; omega⟩
theorem Here.done (h : Here w g bs f W C bx) {r : aH × List Fr} {x : Ending} (hs : iA W g bx r x W') : iA w g bs r x W' := iA.after h.t h.n hs
theorem cZ.grown {U U' : World} {uX : List Nat} {row : Option Nat} (h : cZ U g C uX) (hg : U.grownBy U' row) (hr : ∀ q, row = some q → q ∉ g :: uX) : cZ U' g C uX := by
 have hlts := h.tu
 obtain ⟨⟨ve, vi, vo, vf, h1, h2⟩, h3⟩ := h
 exact ⟨⟨ve, vi, vo, vf, h1.kept (hg.block g (hlts g (by simp)) (fun e => hr g e.symm (by simp))), h2.keep hg.size (fun b hb => hg.block b (hlts b (by simp [hb])) (fun e => hr b e.symm (by simp [hb])))⟩, h3⟩
theorem iA.appended {U U' : World} {uX : List Nat} {L M : List Fr} {v v' : Value} (hc : cZ U g C uX) (ht : aG (g :: bs) w U) (hn : gu w bs uX) (hv : ∀ q, v.ownBlock = some q → w.heap.size ≤ q ∧ q ∉ g :: uX)
  (ho : U'.ownsRow w.heap.size 72 4 v' (L.length + M.length) (fr L ++ fr M)) (hg : U.grownBy U' v.ownBlock) (hat : v'.ownBlock = v.ownBlock ∨ v'.ownBlock = some U.heap.size) : iA w g bs (C, L ++ M) (.returned v') U' := by
 refine ⟨v', uX, rfl, hc.grown hg (fun q hq => (hv q hq).2), ?_, ⟨hg.os.trans ht.os, hg.tape.trans ht.tape, hg.output.trans ht.output, Nat.le_trans ht.size hg.size, fun k hk hn' => (hg.block k (Nat.lt_of_lt_of_le hk ht.size) (fun e => by have := (hv k e.symm).1; omega)).trans (ht.block k hk hn')⟩, hn, fun q hq hx => by
  rcases hat with e | e
  ·exact (hv q (e ▸ hq)).2 hx
  ·rw [hq] at e; have := hc.tu q hx; have := Option.some.inj e; omega⟩
 show U'.ownsRow _ _ _ _ (L ++ M).length (fr (L ++ M))
 rw [WS, List.length_append]
 exact ho
end
structure yT (c : aH) (m : Int) : Prop where
 len : c.flows.length = c.reg.es.length
 sixty : c.reg.es.length ≤ 60
 get : -m ≤ c.get ∧ c.get ≤ m
 xY : ∀ f ∈ c.flows, -m ≤ f.get ∧ f.get ≤ m
theorem yT.wide {c : aH} {m m' : Int} (h : yT c m) (hm : m ≤ m') : yT c m' := ⟨h.len, h.sixty, by have := h.get; omega, fun f hf => by have := h.xY f hf; omega⟩
theorem yT.hap {c : aH} {m : Int} (h : yT c m) (id ev : Int) : yT (oD c id ev) m :=
 ⟨by show c.flows.length = (gq c.reg id ev).1.es.length; rw [OZ]; exact h.len, by show (gq c.reg id ev).1.es.length ≤ 60; rw [OZ]; exact h.sixty, h.get, h.xY⟩
theorem Here.hap {w W : World} {g : Nat} {bs bx : List Nat} {f : Fr} {C : aH} (h : Here w g bs f W C bx) (id ev : Int) :
  Calls Tryz.prog 53 #[.pointer (some ⟨g, 0, none⟩), .int .i64 id, .int .i64 ev] W fun x W' => ∃ bz, x = .returned (.bool (gq C.reg id ev).2) ∧ Here w g bs f W' (oD C id ev) bz := by
 refine (OY g C bx id ev W h.c).mono ?_
 rintro x W' ⟨bz, rfl, hc, ht, hn⟩
 exact ⟨bz, rfl, h.turn hc ht hn⟩
set_option maxHeartbeats 8000000 in
theorem aai (x : aV) (v : Value) (w : World) (hr : aT bT w v x.fds) (hok : dZ x.fds = true) (h1 : x.tun.up.b.size ≤ 1000000) (h2 : x.tun.dn.b.size ≤ 1000000) :
  Calls Tryz.prog 195 #[.agg (nS x v).toArray] w fun e w' => ∃ v', e = .returned (.agg (nS x v').toArray) ∧ w'.ownsRow w.heap.size 104 2 v' x.fds.length (fv x.fds) ∧ Below w.heap.size w w' := by
 obtain ⟨aa, pa, rfl, q1, q2⟩ := hr.form
 have HV := hide hr; have gL := hide hok
 clear hr hok
 have aP : Below w.heap.size w ((w.alloc (.cells #[.int .i64 x.id, .int .i64 x.get, .int .i64 x.give, .slice aa x.fds.length pa, .int .i64 x.tun.up.r, .string x.tun.up.b, .bool x.tun.up.e, .bool x.tun.up.k, .int .i64 x.tun.dn.r, .string x.tun.dn.b, .bool x.tun.dn.e, .bool x.tun.dn.k, .int .i64 x.tun.went, .int .i64 x.tun.came, .bool x.ended] 92)).alloc (.cells #[.int .i64 0, .int .i64 0, .int .i64 0, .slice none 0 0, .int .i64 0, .string ⟨#[]⟩, .bool false, .bool false, .int .i64 0, .string ⟨#[]⟩, .bool false, .bool false, .int .i64 0, .int .i64 0, .bool false] 92)) := ((Below.refl _ _).alloc (Nat.le_refl _) _).alloc (by simp) _
 have RA := (aB w 92 [.int .i64 x.id, .int .i64 x.get, .int .i64 x.give, .slice aa x.fds.length pa, .int .i64 x.tun.up.r, .string x.tun.up.b, .bool x.tun.up.e, .bool x.tun.up.k, .int .i64 x.tun.dn.r, .string x.tun.dn.b, .bool x.tun.dn.e, .bool x.tun.dn.k, .int .i64 x.tun.went, .int .i64 x.tun.came, .bool x.ended]).alloc (.cells #[.int .i64 0, .int .i64 0, .int .i64 0, .slice none 0 0, .int .i64 0, .string ⟨#[]⟩, .bool false, .bool false, .int .i64 0, .string ⟨#[]⟩, .bool false, .bool false, .int .i64 0, .int .i64 0, .bool false] 92)
 have RZ := aB (w.alloc (.cells #[.int .i64 x.id, .int .i64 x.get, .int .i64 x.give, .slice aa x.fds.length pa, .int .i64 x.tun.up.r, .string x.tun.up.b, .bool x.tun.up.e, .bool x.tun.up.k, .int .i64 x.tun.dn.r, .string x.tun.dn.b, .bool x.tun.dn.e, .bool x.tun.dn.k, .int .i64 x.tun.went, .int .i64 x.tun.came, .bool x.ended] 92)) 92 [.int .i64 0, .int .i64 0, .int .i64 0, .slice none 0 0, .int .i64 0, .string ⟨#[]⟩, .bool false, .bool false, .int .i64 0, .string ⟨#[]⟩, .bool false, .bool false, .int .i64 0, .int .i64 0, .bool false]
 have hsz : (w.alloc (.cells #[.int .i64 x.id, .int .i64 x.get, .int .i64 x.give, .slice aa x.fds.length pa, .int .i64 x.tun.up.r, .string x.tun.up.b, .bool x.tun.up.e, .bool x.tun.up.k, .int .i64 x.tun.dn.r, .string x.tun.dn.b, .bool x.tun.dn.e, .bool x.tun.dn.k, .int .i64 x.tun.went, .int .i64 x.tun.came, .bool x.ended] 92)).heap.size = w.heap.size + 1 := by simp
 have hs2 : ((w.alloc (.cells #[.int .i64 x.id, .int .i64 x.get, .int .i64 x.give, .slice aa x.fds.length pa, .int .i64 x.tun.up.r, .string x.tun.up.b, .bool x.tun.up.e, .bool x.tun.up.k, .int .i64 x.tun.dn.r, .string x.tun.dn.b, .bool x.tun.dn.e, .bool x.tun.dn.k, .int .i64 x.tun.went, .int .i64 x.tun.came, .bool x.ended] 92)).alloc (.cells #[.int .i64 0, .int .i64 0, .int .i64 0, .slice none 0 0, .int .i64 0, .string ⟨#[]⟩, .bool false, .bool false, .int .i64 0, .string ⟨#[]⟩, .bool false, .bool false, .int .i64 0, .int .i64 0, .bool false] 92)).heap.size = w.heap.size + 2 := by simp
 rw [hsz] at RZ
 obtain ⟨V, hV⟩ : ∃ V, (w.alloc (.cells #[.int .i64 x.id, .int .i64 x.get, .int .i64 x.give, .slice aa x.fds.length pa, .int .i64 x.tun.up.r, .string x.tun.up.b, .bool x.tun.up.e, .bool x.tun.up.k, .int .i64 x.tun.dn.r, .string x.tun.dn.b, .bool x.tun.dn.e, .bool x.tun.dn.k, .int .i64 x.tun.went, .int .i64 x.tun.came, .bool x.ended] 92)).alloc (.cells #[.int .i64 0, .int .i64 0, .int .i64 0, .slice none 0 0, .int .i64 0, .string ⟨#[]⟩, .bool false, .bool false, .int .i64 0, .string ⟨#[]⟩, .bool false, .bool false, .int .i64 0, .int .i64 0, .bool false] 92) = V := ⟨_, rfl⟩
 rw [hV] at aP RA RZ hs2
 have HB := hide aP; have HZ := hide RZ
 have HS2 : Hid (w.heap.size + 2 ≤ V.heap.size) := by show _ ≤ _; omega
 clear hsz hs2 aP RZ
 go_enter Tryz.func195, Tryz.ntmps195
 go_upto_region 1 with fail
 try rw [hV]
 clear hV
 have x3 := ak 3 RA rfl
 go_wp2_with fail
 refine (Zv x.fds _ _ (HV.out.new HB.out) gL.out).mono ?_; rintro e w1 ⟨vb, rfl, ho, hb⟩
 obtain ⟨ab, pb, rfl, p1, p2⟩ := bW ho
 have RB := RA.new hb
 have hzb := HZ.out.new hb
 have Qa := hide (ah HB.out hb)
 have tC : Hid (w.heap.size + 2 ≤ w1.heap.size) := Nat.le_trans HS2.out hb.size
 have HO := hide (eG (base' := w.heap.size + 2) ho (fun q hq => Nat.le_trans HS2.out (iV ho q hq).1))
 clear x3 RA HZ HB hb ho
 have x3 := ak 3 RB rfl
 have xf := aj.frozen RB 3
 have xl := RB.lt
 go_upto_region 2 with fail
 have HR2 := hide (RB.set 3 (.slice ab x.fds.length pb))
 have HZ2 := hide (hzb.far ⟨w.heap.size, 3, none⟩ (.slice ab x.fds.length pb) (by simp))
 have su := hide (fD HO.out ⟨w.heap.size, 3, none⟩ (.slice ab x.fds.length pb) (fun e => by have := (iV HO.out _ e).1; dsimp only at this; omega))
 have HB2 := hide (Qa.out.setCell (p := ⟨w.heap.size, 3, none⟩) (Nat.le_refl _) (.slice ab x.fds.length pb))
 have HS4 : Hid (w.heap.size + 2 ≤ (w1.setCell ⟨w.heap.size, 3, none⟩ (.slice ab x.fds.length pb)).heap.size) := by show _ ≤ _; simpa using tC.out
 clear x3 xf xl RB hzb HO Qa tC HS2
 generalize w1.setCell ⟨w.heap.size, 3, none⟩ (.slice ab x.fds.length pb) = w2 at *
 replace HR2 : Hid (aj w2 w.heap.size 92 [.int .i64 x.id, .int .i64 x.get, .int .i64 x.give, .slice ab x.fds.length pb, .int .i64 x.tun.up.r, .string x.tun.up.b, .bool x.tun.up.e, .bool x.tun.up.k, .int .i64 x.tun.dn.r, .string x.tun.dn.b, .bool x.tun.dn.e, .bool x.tun.dn.k, .int .i64 x.tun.went, .int .i64 x.tun.came, .bool x.ended]) := HR2.out
 have HZ := HZ2; have HO := su; have HB := HB2
 clear HZ2 su HB2
 have hp : bL w2 w.heap.size 92 [.int .i64 x.id, .int .i64 x.get, .int .i64 x.give, .slice ab x.fds.length pb] [.bool x.ended] 4 (rW x.tun) := ⟨HR2.out, rfl⟩
 have HP := hide hp
 clear hp
 go_wp2_with (refine wpList_load_mid (by rfl) 90 _ (by rfl) w.heap.size 4 (by rfl) (rW x.tun) _ (fun j u hu => HP.out.cell hu) Tryz.underlying90 rfl (by kernel_rfl) ?_)
 refine (NG x.tun _).mono ?_; rintro e w3 ⟨rfl, hb3⟩
 replace HP := hide (HP.out.new hb3)
 replace HZ := hide (HZ.out.new hb3)
 replace HO := hide (aX HO.out hb3)
 replace HB := hide (ah HB.out hb3)
 clear hb3 HR2
 go_wp2_with fail
 refine (Xt x.tun _ (by omega) (by omega)).mono ?_; rintro e w4 ⟨rfl, hb4⟩
 replace HP := hide (HP.out.new hb4)
 replace HZ := hide (HZ.out.new hb4)
 replace HO := hide (aX HO.out hb4)
 replace HB := hide (ah HB.out hb4)
 clear hb4
 go_upto_region 3 with (refine wpList_store_mid (by rfl) 90 _ _ (by rfl) w.heap.size 4 (rW x.tun) (by rfl) (by rfl) 92 _ _ _ HP.out (by kernel_rfl) rfl (by intro u hu; simp at hu; rcases hu with rfl | rfl | rfl | rfl | rfl | rfl | rfl | rfl | rfl | rfl <;> rfl) ?_; intro w5 zL fM)
 have xO : Hid (aj w5 w.heap.size 92 [.int .i64 x.id, .int .i64 x.get, .int .i64 x.give, .slice ab x.fds.length pb, .int .i64 x.tun.up.r, .string x.tun.up.b, .bool x.tun.up.e, .bool x.tun.up.k, .int .i64 x.tun.dn.r, .string x.tun.dn.b, .bool x.tun.dn.e, .bool x.tun.dn.k, .int .i64 x.tun.went, .int .i64 x.tun.came, .bool x.ended]) := zL.row
 have Qb := hide (HZ.out.kept (fM.block _ HZ.out.lt (by simp)))
 have Cu := hide (gK HO.out (fun q hq hl => fM.block q hl (by have := (iV HO.out q hq).1; simp; omega)))
 have jY : Hid (Below w.heap.size w w5) := ⟨fM.os.trans HB.out.os, fM.tape.trans HB.out.tape, fM.output.trans HB.out.output, Nat.le_trans HB.out.size fM.size, fun q hq => (fM.block q (Nat.lt_of_lt_of_le hq HB.out.size) (by simp; omega)).trans (HB.out.block q hq)⟩
 clear zL fM HP HZ HO HB
 have lD := hide (dW (cs' := [.int .i64 x.id, .int .i64 x.get, .int .i64 x.give, .slice ab x.fds.length pb, .int .i64 x.tun.up.r, .string x.tun.up.b, .bool x.tun.up.e, .bool x.tun.up.k, .int .i64 x.tun.dn.r, .string x.tun.dn.b, .bool x.tun.dn.e, .bool x.tun.dn.k, .int .i64 x.tun.went, .int .i64 x.tun.came, .bool x.ended]) Qb.out)
 have HB6 := hide (below_setRow jY.out (show w.heap.size ≤ w.heap.size + 1 by omega) #[.int .i64 x.id, .int .i64 x.get, .int .i64 x.give, .slice ab x.fds.length pb, .int .i64 x.tun.up.r, .string x.tun.up.b, .bool x.tun.up.e, .bool x.tun.up.k, .int .i64 x.tun.dn.r, .string x.tun.dn.b, .bool x.tun.dn.e, .bool x.tun.dn.k, .int .i64 x.tun.went, .int .i64 x.tun.came, .bool x.ended])
 have yU := hide (gK Cu.out (w' := w5.setRow (w.heap.size + 1) #[.int .i64 x.id, .int .i64 x.get, .int .i64 x.give, .slice ab x.fds.length pb, .int .i64 x.tun.up.r, .string x.tun.up.b, .bool x.tun.up.e, .bool x.tun.up.k, .int .i64 x.tun.dn.r, .string x.tun.dn.b, .bool x.tun.dn.e, .bool x.tun.dn.k, .int .i64 x.tun.went, .int .i64 x.tun.came, .bool x.ended]) (fun q hq hl => setRow_other _ _ _ _ (by have := (iV Cu.out q hq).1; omega)))
 go_wp2_with (first | (refine wpList_load_row (by rfl) 92 _ (by rfl) w.heap.size (by rfl) [.int .i64 x.id, .int .i64 x.get, .int .i64 x.give, .slice ab x.fds.length pb, .int .i64 x.tun.up.r, .string x.tun.up.b, .bool x.tun.up.e, .bool x.tun.up.k, .int .i64 x.tun.dn.r, .string x.tun.dn.b, .bool x.tun.dn.e, .bool x.tun.dn.k, .int .i64 x.tun.went, .int .i64 x.tun.came, .bool x.ended] _ 92 xO.out Tryz.underlying92 rfl (by kernel_rfl) ?_) | (refine wpList_store_row (by rfl) 92 _ _ (by rfl) (w.heap.size + 1) [.int .i64 x.id, .int .i64 x.get, .int .i64 x.give, .slice ab x.fds.length pb, .int .i64 x.tun.up.r, .string x.tun.up.b, .bool x.tun.up.e, .bool x.tun.up.k, .int .i64 x.tun.dn.r, .string x.tun.dn.b, .bool x.tun.dn.e, .bool x.tun.dn.k, .int .i64 x.tun.went, .int .i64 x.tun.came, .bool x.ended] (by rfl) (by rfl) 92 [.int .i64 0, .int .i64 0, .int .i64 0, .slice none 0 0, .int .i64 0, .string ⟨#[]⟩, .bool false, .bool false, .int .i64 0, .string ⟨#[]⟩, .bool false, .bool false, .int .i64 0, .int .i64 0, .bool false] Qb.out (by kernel_rfl) rfl (by intro u hu; simp at hu; rcases hu with rfl | rfl | rfl | rfl | rfl | rfl | rfl | rfl | rfl | rfl | rfl | rfl | rfl | rfl | rfl <;> rfl) ?_))
 generalize w5.setRow (w.heap.size + 1) #[.int .i64 x.id, .int .i64 x.get, .int .i64 x.give, .slice ab x.fds.length pb, .int .i64 x.tun.up.r, .string x.tun.up.b, .bool x.tun.up.e, .bool x.tun.up.k, .int .i64 x.tun.dn.r, .string x.tun.dn.b, .bool x.tun.dn.e, .bool x.tun.dn.k, .int .i64 x.tun.went, .int .i64 x.tun.came, .bool x.ended] = w6 at *
 have z0 := ak 0 lD.out rfl
 have z1 := ak 1 lD.out rfl
 have z2 := ak 2 lD.out rfl
 have z3 := ak 3 lD.out rfl
 have z4 := ak 4 lD.out rfl
 have z5 := ak 5 lD.out rfl
 have z6 := ak 6 lD.out rfl
 have z7 := ak 7 lD.out rfl
 have z8 := ak 8 lD.out rfl
 have z9 := ak 9 lD.out rfl
 have jf := ak 10 lD.out rfl
 have jg := ak 11 lD.out rfl
 have z12 := ak 12 lD.out rfl
 have Di := ak 13 lD.out rfl
 have LD := ak 14 lD.out rfl
 have zf := fun j => aj.frozen lD.out j
 refine bodyPost_ret (v := .agg #[.int .i64 x.id, .int .i64 x.get, .int .i64 x.give, .slice ab x.fds.length pb, .int .i64 x.tun.up.r, .string x.tun.up.b, .bool x.tun.up.e, .bool x.tun.up.k, .int .i64 x.tun.dn.r, .string x.tun.dn.b, .bool x.tun.dn.e, .bool x.tun.dn.k, .int .i64 x.tun.went, .int .i64 x.tun.came, .bool x.ended]) (by simp [results, Tryz.results195, go_sem, *]) rfl ?_
 exact ⟨_, rfl, eG yU.out (fun q hq => by have := (iV yU.out q hq).1; omega), HB6.out⟩
abbrev lJ (d : aH) (ve vi vo vf tv : Value) : List Value := [.int .i64 d.reg.lim, .int .i64 d.reg.top, ve, .int .i64 d.inr, vi, .int .i64 d.au, vo, .int .i64 d.get, .int .i64 d.give, .int .i64 d.first, vf, .bool d.away, .bool d.dead, tv]
structure fO (w : World) (lo g : Nat) (d : aH) (L : List Fr) (bs : List Nat) : Prop where
 ex : ∃ ve vi vo vf tv cb, aj w g 61 (lJ d ve vi vo vf tv) ∧ dY w cb d ve vi vo vf ∧ w.ownsRow lo 72 4 tv L.length (fr L) ∧ (∀ x ∈ cb, x ∈ bs) ∧ ∀ q, tv.ownBlock = some q → q ∈ bs ∧ q ∉ cb
 lt : ∀ b ∈ g :: bs, b < w.heap.size
 low : ∀ b ∈ bs, lo ≤ b
 ng : g ∉ bs
 base : lo ≤ w.heap.size
structure fZ (lo g : Nat) (w : World) (bs : List Nat) (W : World) (d : aH) (L : List Fr) (bx : List Nat) : Prop where
 m : fO W lo g d L bx
 t : aG (g :: bs) w W
 n : gu w bs bx
theorem aaj {a a' b c e : List Nat} (h : (a ++ b ++ c ++ e).Nodup) (hn : a'.Nodup) (hd : ∀ q ∈ a', q ∉ a ++ b ++ c ++ e) : (a' ++ b ++ c ++ e).Nodup := by
 simp only [List.append_assoc] at h hd ⊢
 exact jv hn (oH h) fun x hx hx2 => hd x hx (List.mem_append_right _ hx2)
theorem aak {a b c c' e : List Nat} (h : (a ++ b ++ c ++ e).Nodup) (hn : c'.Nodup) (hd : ∀ q ∈ c', q ∉ a ++ b ++ c ++ e) : (a ++ b ++ c' ++ e).Nodup := by
 rw [List.append_assoc (a ++ b)] at h ⊢
 refine jv (zM h) (jv hn (oH (oH h)) fun x hx hx2 => hd x hx (by simp [hx2])) fun x hx hx2 => ?_
 rcases List.mem_append.1 hx2 with q | q
 ·exact hd x q (List.mem_append_left _ (List.mem_append_left _ hx))
 ·exact oG h x hx (List.mem_append_right _ q)
section
variable {w w' : World} {cb : List Nat} {d : aH} {ve vi vo vf : Value}
theorem dY.aal (h : dY w cb d ve vi vo vf) (r : bZ) (v : Value) (vb : List Nat) (ho : aW bE w v r.es vb) (hn : vb.Nodup) (hf : ∀ q ∈ vb, q ∉ cb) : ∃ cb', dY w cb' { d with reg := r } v vi vo vf ∧ ∀ b ∈ cb', b ∈ cb ∨ b ∈ vb := by
 obtain ⟨⟨be, bi, bo, bf, h1, h2, h3, h4, rfl⟩, hnd⟩ := h
 exact ⟨vb ++ bi ++ bo ++ bf, ⟨⟨vb, bi, bo, bf, ho, h2, h3, h4, rfl⟩, aaj hnd hn hf⟩, fun b hb => by simp only [List.mem_append] at hb ⊢; rcases hb with ((e | e) | e) | e <;> simp [e]⟩
theorem dY.aam (h : dY w cb d ve vi vo vf) (r : Int) (T : List Fd) (v : Value) (vb : List Nat) (ho : aW bT w v T vb) (hn : vb.Nodup) (hf : ∀ q ∈ vb, q ∉ cb) : ∃ cb', dY w cb' { d with au := r, outT := T } ve vi v vf ∧ ∀ b ∈ cb', b ∈ cb ∨ b ∈ vb := by
 obtain ⟨⟨be, bi, bo, bf, h1, h2, h3, h4, rfl⟩, hnd⟩ := h
 exact ⟨be ++ bi ++ vb ++ bf, ⟨⟨be, bi, vb, bf, h1, h2, ho, h4, rfl⟩, aak hnd hn hf⟩, fun b hb => by simp only [List.mem_append] at hb ⊢; rcases hb with ((e | e) | e) | e <;> simp [e]⟩
end
section
variable {w w' W W' : World} {lo g : Nat} {d d' : aH} {L L' : List Fr} {bs bx wh : List Nat}
theorem fO.new (h : fO w lo g d L bs) (hb : Below w.heap.size w w') : fO w' lo g d L bs := by
 obtain ⟨⟨ve, vi, vo, vf, tv, cb, h1, h2, h3, h4, h5⟩, hl, hlo, hn, hbs⟩ := h
 exact ⟨⟨ve, vi, vo, vf, tv, cb, h1.new hb, h2.new hb, aX h3 hb, h4, h5⟩, fun b hb' => Nat.lt_of_lt_of_le (hl b hb') hb.size, hlo, hn, Nat.le_trans hbs hb.size⟩
theorem fO.Qc (h : fO w lo g d L bs) : g < w.heap.size := h.lt g (by simp)
theorem fZ.new (h : fZ lo g w bs W d L bx) (hb : Below W.heap.size W W') : fZ lo g w bs W' d L bx := ⟨h.m.new hb, h.t.trans (aG.new hb), h.n⟩
theorem fZ.step (h : fZ lo g w bs W d L bx) (k : fZ lo g W bx W' d' L' wh) : fZ lo g w bs W' d' L' wh := ⟨k.m, h.t.then h.n k.t, h.n.trans k.n h.t.size⟩
theorem fZ.after (hb : Below w.heap.size w W) (h : fZ lo g W bs W' d L bx) : fZ lo g w bs W' d L bx := ⟨h.m, (aG.new hb).trans h.t, fun b hb' => (h.n b hb').imp id (Nat.le_trans hb.size)⟩
theorem fZ.box {q : Nat} {ty : TypeId} {cs : List Value} (h : fZ lo g w bs W d L bx) (hr : aj w q ty cs) (hn : q ∉ g :: bs) : aj W q ty cs := hr.kept (h.t.block q hr.lt hn)
theorem fO.far {q : Nat} (h : fO w lo g d L bs) (hq : w.heap.size ≤ q) : q ∉ g :: bs := fun hx => by have := h.lt q hx; omega
theorem fO.set (h : fO w lo g d L bs) (j : Nat) (v : Value) (d' : aH) (hd : ∀ ve vi vo vf tv, (lJ d ve vi vo vf tv).set j v = lJ d' ve vi vo vf tv) (hc : ∀ u cb ve vi vo vf, dY u cb d ve vi vo vf → dY u cb d' ve vi vo vf) :
  fZ lo g w bs (w.setCell ⟨g, j, none⟩ v) d' L bs := by
 obtain ⟨⟨ve, vi, vo, vf, tv, cb, h1, h2, h3, h4, h5⟩, hl, hlo, hn, hbs⟩ := h
 have hk : ∀ b ∈ bs, (w.setCell ⟨g, j, none⟩ v).heap[b]? = w.heap[b]? := cZ.aan hn rfl v
 have hr := h1.set j v
 rw [hd] at hr
 exact ⟨⟨⟨ve, vi, vo, vf, tv, cb, hr, hc _ _ _ _ _ _ (h2.keep (by simp) (fun b hb => hk b (h4 b hb))), gK h3 (fun q hq _ => hk q (h5 q hq).1), h4, h5⟩, fun b hb => by have := hl b hb; simpa using this, hlo, hn, by simpa using hbs⟩, (aG.refl _ _).set _ _ (by simp), gu.refl _ _⟩
theorem fO.swap {u : World} (h : fO u lo g d L bs) (hb : Below u.heap.size u w) (W : World) (d' : aH) (vb : List Nat) (hsz : W.heap.size = w.heap.size) (hos : W.os = w.os) (htp : W.tape = w.tape) (hou : W.output = w.output) (hk : ∀ b, b ≠ g → W.heap[b]? = w.heap[b]?)
  (hvb : ∀ q ∈ vb, u.heap.size ≤ q ∧ q < w.heap.size)
  (hc : ∀ ve vi vo vf tv cb, aj w g 61 (lJ d ve vi vo vf tv) → dY w cb d ve vi vo vf → (∀ q ∈ vb, q ∉ cb) → ∃ ve' xk xq xu cb', aj W g 61 (lJ d' ve' xk xq xu tv) ∧ dY w cb' d' ve' xk xq xu ∧ ∀ b ∈ cb', b ∈ cb ∨ b ∈ vb) : fZ lo g u bs W d' L (bs ++ vb) := by
 have aao := h.lt
 have hbu := h.base
 have hgu := h.Qc
 obtain ⟨⟨ve, vi, vo, vf, tv, cb, h1, h2, h3, h4, h5⟩, hl, hlo, hn, hbs⟩ := h.new hb
 have hold : ∀ q ∈ vb, q ∉ bs := fun q hq hx => by have := aao q (by simp [hx]); have := (hvb q hq).1; omega
 obtain ⟨ve', xk, xq, xu, cb', r1, r2, r3⟩ := hc ve vi vo vf tv cb h1 h2 (fun q hq hx => hold q hq (h4 q hx))
 have hgc : ∀ b ∈ cb', b ≠ g := fun b hb => by
  rcases r3 b hb with e | e
  ·exact fun e2 => hn (e2 ▸ h4 b e)
  ·have := (hvb b e).1; omega
 refine ⟨⟨⟨ve', xk, xq, xu, tv, cb', r1, r2.keep (by omega) (fun b hb => hk b (hgc b hb)), gK h3 (fun q hq _ => hk q (fun e => hn (e ▸ (h5 q hq).1))), fun x hx => List.mem_append.2 ((r3 x hx).imp (h4 x) id), fun q hq => ⟨List.mem_append_left _ (h5 q hq).1, fun hx => ?_⟩⟩, fun b hb => ?_, fun b hb => ?_, fun hx => ?_, by omega⟩, ⟨hos.trans hb.os, htp.trans hb.tape, hou.trans hb.output, by have := hb.size; omega, fun k hk1 hk2 => (hk k (fun e => hk2 (by simp [e]))).trans (hb.block k hk1)⟩, fun b hb => ?_⟩
 ·rcases r3 q hx with e | e
  ·exact (h5 q hq).2 e
  ·exact hold q e (h5 q hq).1
 ·rw [hsz]
  rcases List.mem_cons.1 hb with e | e
  ·exact hl b (by simp [e])
  ·rcases List.mem_append.1 e with e | e
   ·exact hl b (by simp [e])
   ·exact (hvb b e).2
 ·rcases List.mem_append.1 hb with e | e
  ·exact hlo b e
  ·have := (hvb b e).1; omega
 ·rcases List.mem_append.1 hx with e | e
  ·exact hn e
  ·have := (hvb g e).1; omega
 ·exact (List.mem_append.1 hb).imp id (fun e => (hvb b e).1)
theorem fO.aap {u : World} (h : fO u lo g d L bs) (hb : Below u.heap.size u w) (r : bZ) (v : Value) (ho : aD bE w u.heap.size w.heap.size v r.es) :
  ∃ bx, fZ lo g u bs (((w.setCell ⟨g, 0, none⟩ (.int .i64 r.lim)).setCell ⟨g, 1, none⟩ (.int .i64 r.top)).setCell ⟨g, 2, none⟩ v) { d with reg := r } L bx := by
 obtain ⟨vb, o1, o2, o3⟩ := ho
 refine ⟨_, h.swap hb _ _ vb (by simp) rfl rfl rfl (fun b hb' => by rw [Below.heap_setCell _ _ _ b hb', Below.heap_setCell _ _ _ b hb', Below.heap_setCell _ _ _ b hb']) o3 ?_⟩
 intro ve vi vo vf tv cb h1 h2 h3
 obtain ⟨cb', c1, c2⟩ := h2.aal r v vb o1 o2 h3
 exact ⟨v, vi, vo, vf, cb', ((h1.set 0 _).set 1 _).set 2 _, c1, c2⟩
theorem fO.Tf {u : World} (h : fO u lo g d L bs) (hb : Below u.heap.size u w) (r : Int) (T : List Fd) (v : Value) (ho : aD bT w u.heap.size w.heap.size v T) :
  ∃ bx, fZ lo g u bs ((w.setCell ⟨g, 5, none⟩ (.int .i64 r)).setCell ⟨g, 6, none⟩ v) { d with au := r, outT := T } L bx := by
 obtain ⟨vb, o1, o2, o3⟩ := ho
 refine ⟨_, h.swap hb _ _ vb (by simp) rfl rfl rfl (fun b hb' => by rw [Below.heap_setCell _ _ _ b hb', Below.heap_setCell _ _ _ b hb']) o3 ?_⟩
 intro ve vi vo vf tv cb h1 h2 h3
 obtain ⟨cb', c1, c2⟩ := h2.aam r T v vb o1 o2 h3
 exact ⟨ve, vi, v, vf, cb', (h1.set 5 _).set 6 _, c1, c2⟩
theorem fO.told (h : fO w lo g d L bs) : ∃ ve vi vo vf tv, aj w g 61 (lJ d ve vi vo vf tv) ∧ w.ownsRow lo 72 4 tv L.length (fr L) ∧ (∀ q, tv.ownBlock = some q → g ≠ q) ∧ ∀ (w1 : World) (v' : Value) (f : Fr) (n : Nat), w1.ownsRow lo 72 4 v' n (fr L ++ fr [f]) → n = L.length + 1 → w.grownBy w1 tv.ownBlock → (v'.ownBlock = tv.ownBlock ∨ v'.ownBlock = some w.heap.size) →
   ∃ bx, fZ lo g w bs (w1.setCell ⟨g, 13, none⟩ v') d (L ++ [f]) bx := by
 have hlts := h.lt
 have hb0 := h.base
 obtain ⟨⟨ve, vi, vo, vf, tv, cb, h1, h2, h3, h4, h5⟩, hl, hlo, hn, hbs⟩ := h
 refine ⟨ve, vi, vo, vf, tv, h1, h3, fun q hq e => hn (e ▸ (h5 q hq).1), fun w1 v' f n ho hn1 hg hat => ?_⟩
 subst hn1
 have hgl := hl g (by simp)
 have hk : ∀ b, b < w.heap.size → b ≠ g → (∀ q, tv.ownBlock = some q → b ≠ q) → (w1.setCell ⟨g, 13, none⟩ v').heap[b]? = w.heap[b]? := fun b hb hbg hbt => by
  rw [Below.heap_setCell _ _ _ b hbg]
  exact hg.block b hb (fun e => hbt b e.symm rfl)
 have hgt : ∀ q, tv.ownBlock = some q → g ≠ q := fun q hq e => hn (e ▸ (h5 q hq).1)
 have hgv : ∀ q, v'.ownBlock = some q → q ≠ g := fun q hq e => by
  rcases hat with a | a
  ·exact hgt q (a ▸ hq) e.symm
  ·rw [hq] at a; have := Option.some.inj a; omega
 have r1 : aj w1 g 61 (lJ d ve vi vo vf tv) := h1.kept (hg.block g hgl (fun e => hgt g e.symm rfl))
 have hsz : (w1.setCell ⟨g, 13, none⟩ v').heap.size = w1.heap.size := by simp
 have hgs := hg.size
 refine ⟨bs ++ v'.ownBlock.toList, ⟨⟨ve, vi, vo, vf, v', cb, r1.set 13 v', h2.keep (by omega) (fun b hb => hk b (hl b (by simp [h4 b hb])) (fun e => hn (e ▸ h4 b hb)) (fun q hq e => (h5 q hq).2 (e ▸ hb))), ?_, fun x hx => List.mem_append_left _ (h4 x hx), fun q hq => ⟨by simp [hq], fun hx => ?_⟩⟩, fun b hb => ?_, fun b hb => ?_, fun hx => ?_, by omega⟩, ?_, fun b hb => ?_⟩
 ·have e : fr (L ++ [f]) = fr L ++ fr [f] := by simp [fr]
  rw [e, List.length_append]
  exact gK ho (fun q hq _ => Below.heap_setCell _ _ _ q (hgv q hq))
 ·rcases hat with a | a
  ·exact (h5 q (a ▸ hq)).2 hx
  ·rw [hq] at a; have := Option.some.inj a; have := hl q (by simp [h4 q hx]); omega
 ·rw [hsz]
  rcases List.mem_cons.1 hb with e | e
  ·have := hl b (by simp [e]); omega
  ·rcases List.mem_append.1 e with e | e
   ·have := hl b (by simp [e]); omega
   ·have hq : v'.ownBlock = some b := by cases hv : v'.ownBlock <;> simp [hv] at e ⊢; exact e.symm
    exact (iV ho b hq).2
 ·rcases List.mem_append.1 hb with e | e
  ·exact hlo b e
  ·have hq : v'.ownBlock = some b := by cases hv : v'.ownBlock <;> simp [hv] at e ⊢; exact e.symm
   exact (iV ho b hq).1
 ·rcases List.mem_append.1 hx with e | e
  ·exact hn e
  ·have hq : v'.ownBlock = some g := by cases hv : v'.ownBlock <;> simp [hv] at e ⊢; exact e.symm
   exact hgv g hq rfl
 ·exact ⟨hg.os, hg.tape, hg.output, by omega, fun k hk1 hk2 => hk k hk1 (fun e => hk2 (by simp [e])) (fun q hq e => hk2 (by rw [e]; simp [(h5 q hq).1]))⟩
 ·rcases List.mem_append.1 hb with e | e
  ·exact .inl e
  ·have hq : v'.ownBlock = some b := by cases hv : v'.ownBlock <;> simp [hv] at e ⊢; exact e.symm
   rcases hat with a | a
   ·exact .inl (h5 b (a ▸ hq)).1
   ·rw [hq] at a; have := Option.some.inj a; exact .inr (by omega)
theorem fO.xY (h : fO w lo g d L bs) (k : Nat) (hk : k < d.flows.length) :
  ∃ gf A C ve vi vo cap v0 tv, aj w g 61 (lJ d ve vi vo (.slice (some ⟨gf, 0, none⟩) d.flows.length cap) tv) ∧ gf ∈ bs ∧ gf < w.heap.size ∧ g ≠ gf ∧ bL w gf 92 A C (k * 15) (nS d.flows[k] v0) ∧ d.flows[k].tun.up.b.size ≤ 9223372036854775807 ∧ d.flows[k].tun.dn.b.size ≤ 9223372036854775807 ∧
   ∀ w' f', f'.fds = d.flows[k].fds → f'.tun.up.b.size ≤ 9223372036854775807 → f'.tun.dn.b.size ≤ 9223372036854775807 → bL w' gf 92 A C (k * 15) (nS f' v0) → aG [gf] w w' → fZ lo g w bs w' { d with flows := d.flows.set k f' } L bs := by
 obtain ⟨⟨ve, vi, vo, vf, tv, cb, hrow, ⟨⟨be, bi, bo, bf, h1, h2, h3, h4, rfl⟩, hn⟩, h5, h6, h7⟩, hl, hlo, dJ, hbs⟩ := h
 have nO : bf.Nodup := oH hn
 have ql : ∀ x ∈ bf, x ∉ be ++ bi ++ bo := fun x hx hx2 => oG hn x hx2 hx
 obtain ⟨gf, cap, cs, b, A, C, rfl, hgl, hgm, hgb, hsub, hown, hmid, hA, hput⟩ := h4.mid nO k hk
 obtain ⟨v0, bq, rfl, f0, f1, g1, rfl⟩ := hown
 have Qd : gf ∈ be ++ bi ++ bo ++ bf := by simp [hgm]
 have JA : gf ∈ bs := h6 gf Qd
 have hgg : g ≠ gf := fun e => dJ (by rw [e]; exact JA)
 refine ⟨gf, A, C, ve, vi, vo, cap, v0, tv, hrow, JA, hgl, hgg, ⟨hmid, by rw [hA]; rfl⟩, f0, f1, ?_⟩
 intro w' f' hfe t1 t2 hm' ht
 have hk1 : ∀ x, x < w.heap.size → x ≠ gf → w'.heap[x]? = w.heap[x]? := fun x hx hne => ht.block x hx (by simpa using hne)
 have hk0 : ∀ x ∈ be ++ bi ++ bo, x ≠ gf := fun x hx e => ql gf hgm (e ▸ hx)
 have Bv : ∀ x ∈ b, w'.heap[x]? = w.heap[x]? := fun x hx => hk1 x (g1.lt x hx) (fun e => hgb (e ▸ hx))
 have hO := hput w' _ f' hm'.row ⟨v0, b, rfl, t1, t2, by rw [hfe]; exact g1.keep ht.size Bv, rfl⟩ ht.size (fun x hx hne => hk1 x (h4.lt x hx) hne)
 have hsz := ht.size
 refine ⟨⟨⟨ve, vi, vo, .slice (some ⟨gf, 0, none⟩) d.flows.length cap, tv, be ++ bi ++ bo ++ bf, hrow.kept (hk1 g hrow.lt hgg), ⟨⟨be, bi, bo, bf, h1.keep hsz (fun x hx => hk1 x (h1.lt x hx) (hk0 x (by simp [hx]))), h2.keep hsz (fun x hx => hk1 x (h2.lt x hx) (hk0 x (by simp [hx]))), h3.keep hsz (fun x hx => hk1 x (h3.lt x hx) (hk0 x (by simp [hx]))), hO, rfl⟩, hn⟩, gK h5 (fun q hq hq2 => hk1 q hq2 (fun e => (h7 q hq).2 (e ▸ Qd))), h6, h7⟩, fun b hb => Nat.lt_of_lt_of_le (hl b hb) hsz, hlo, dJ, by omega⟩, ht.wide (fun x hx => by simp at hx; subst hx; simp [JA]), gu.refl _ _⟩
end
end Go.Proofs.YtlpbnkideaojeaaGreatDoor
