/- Several small texts of one level, one behind the other. -/
import Derived.Test.YtfmeinkhdgbgjaaGreatQTkG24
import Derived.Test.YtfmeinkhdgbgjaaGreatQTkG19
import Derived.Test.YtfmeinkhdgbgjaaGreatQTkG4
import Derived.Test.YtfmeinkhdgbgjaaGreatQTkG3
import Derived.Test.YtfmeinkhdgbgjaaGreatQTkG5
import Derived.Test.YtfmeinkhdgbgjaaGreatQTkG9
import Derived.Test.YtfmeinkhdgbgjaaGreatQTkBlk
import Derived.Test.YtfmeinkhdgbgjaaGreatQTkG11
import Derived.Deep.RegionHeld3
import Derived.Test.YtfmeinkhdgbgjaaGreatQTkG16
import Derived.Test.YtfmeinkhdgbgjaaGreatQTkG2
/- Where a step in place stands: the Conn, what has turned since the call, the frame that came in, in its box. -/
namespace Go.Proofs.YtfmeinkhdgbgjaaGreat
open Go.RowKit
set_option maxRecDepth 100000
set_option linter.unusedSimpArgs false
set_option linter.unusedVariables false
structure Here (w : World) (g : Nat) (bs : List Nat) (f : Fr) (W : World) (C : CnD) (bx : List Nat) : Prop where
  c : CnM W g C bx
  t : TurnB (g :: bs) w W
  n : NewB w bs bx
  r : RowIs W w.heap.size 34 [.int .i64 f.k, .int .i64 f.fl, .int .i64 f.st, .string f.b]
  x : w.heap.size ∉ g :: bx
section
variable {w W W' : World} {g : Nat} {bs bx : List Nat} {f : Fr} {C : CnD}
theorem Here.start (h : CnM w g C bs) (f : Fr) : Here w g bs f (w.alloc (.cells #[.int .i64 f.k, .int .i64 f.fl, .int .i64 f.st, .string f.b] 34)) C bs := by
  have hbW : Below w.heap.size w (w.alloc (.cells #[.int .i64 f.k, .int .i64 f.fl, .int .i64 f.st, .string f.b] 34)) := (Below.refl _ _).alloc (Nat.le_refl _) _
  exact ⟨h.new hbW, TurnB.new hbW, NewB.refl _ _, rowIs_new w 34 _, fun hx => by have := h.lts _ hx; omega⟩
theorem Here.new (h : Here w g bs f W C bx) (hb : Below W.heap.size W W') : Here w g bs f W' C bx := ⟨h.c.new hb, h.t.trans (TurnB.new hb), h.n, h.r.new hb, h.x⟩
theorem Here.lt (h : Here w g bs f W C bx) : w.heap.size < W.heap.size := h.r.lt
theorem Here.turn (h : Here w g bs f W C bx) {C' : CnD} {by_ : List Nat} (hc : CnM W' g C' by_) (ht : TurnB (g :: bx) W W') (hn : NewB W bx by_) : Here w g bs f W' C' by_ :=
  ⟨hc, h.t.then h.n ht, h.n.trans hn h.t.size, h.r.kept (ht.block _ h.r.lt h.x), fun hx => by
    rcases List.mem_cons.1 hx with e | e
    · exact h.x (by simp [e])
    · rcases hn _ e with e | e
      · exact h.x (by simp [e])
      · have := h.lt; omega⟩
theorem Here.done (h : Here w g bs f W C bx) {r : CnD × List Fr} {x : Ending} (hs : StepC W g bx r x W') : StepC w g bs r x W' := StepC.after h.t h.n hs
theorem CnM.grown {U U' : World} {bs2 : List Nat} {row : Option Nat} (h : CnM U g C bs2) (hg : U.grownBy U' row) (hr : ∀ q, row = some q → q ∉ g :: bs2) : CnM U' g C bs2 := by
  have hlts := h.lts
  obtain ⟨⟨ve, vi, vo, vf, h1, h2⟩, h3⟩ := h
  exact ⟨⟨ve, vi, vo, vf, h1.kept (hg.block g (hlts g (by simp)) (fun e => hr g e.symm (by simp))), h2.keep hg.size (fun b hb => hg.block b (hlts b (by simp [hb])) (fun e => hr b e.symm (by simp [hb])))⟩, h3⟩
/-- Frames behind frames: what append leaves. -/
theorem StepC.appended {U U' : World} {bs2 : List Nat} {L M : List Fr} {v v' : Value} (hc : CnM U g C bs2) (ht : TurnB (g :: bs) w U) (hn : NewB w bs bs2) (hv : ∀ q, v.ownBlock = some q → w.heap.size ≤ q ∧ q ∉ g :: bs2)
    (ho : U'.ownsRow w.heap.size 34 4 v' (L.length + M.length) (fr L ++ fr M)) (hg : U.grownBy U' v.ownBlock) (hat : v'.ownBlock = v.ownBlock ∨ v'.ownBlock = some U.heap.size) : StepC w g bs (C, L ++ M) (.returned v') U' := by
  refine ⟨v', bs2, rfl, hc.grown hg (fun q hq => (hv q hq).2), ?_, ⟨hg.os.trans ht.os, hg.tape.trans ht.tape, hg.output.trans ht.output, Nat.le_trans ht.size hg.size, fun k hk hn' => (hg.block k (Nat.lt_of_lt_of_le hk ht.size) (fun e => by have := (hv k e.symm).1; omega)).trans (ht.block k hk hn')⟩, hn, fun q hq hx => by
    rcases hat with e | e
    · exact (hv q (e ▸ hq)).2 hx
    · rw [hq] at e; have := hc.lts q hx; have := Option.some.inj e; omega⟩
  show U'.ownsRow _ _ _ _ (L ++ M).length (fr (L ++ M))
  rw [fr_app, List.length_append]
  exact ho
/-- A row of frames that was told, behind another step in place. -/
theorem frames_turn {W1 W2 : World} {v : Value} {L : List Fr} {base : Nat} (ho : W1.ownsRow base 34 4 v L.length (fr L)) (ht : TurnB (g :: bx) W1 W2) (hv : ∀ q, v.ownBlock = some q → q ∉ g :: bx) : W2.ownsRow base 34 4 v L.length (fr L) := owns_kept ho (fun k hk hl => ht.block k hl (hv k hk))
end
/-- Numbers that no step passes. -/
structure Mild (c : CnD) (m : Int) : Prop where
  len : c.flows.length = c.reg.es.length
  sixty : c.reg.es.length ≤ 60
  get : -m ≤ c.get ∧ c.get ≤ m
  flw : ∀ f ∈ c.flows, -m ≤ f.get ∧ f.get ≤ m
theorem mild_ok {c : CnD} (h : okCn c = true) : Mild c 16777215 := ⟨(cn_len h).1, (cn_len h).2, (cn_wins h).1, fun f hf => (cn_flow h hf).1⟩
theorem Mild.wide {c : CnD} {m m' : Int} (h : Mild c m) (hm : m ≤ m') : Mild c m' := ⟨h.len, h.sixty, by have := h.get; omega, fun f hf => by have := h.flw f hf; omega⟩
theorem Mild.setGet {c : CnD} {m n : Int} (h : Mild c m) (hn : -m ≤ n ∧ n ≤ m) : Mild { c with get := n } m := ⟨h.len, h.sixty, hn, h.flw⟩
theorem Mild.setFlow {c : CnD} {m : Int} (h : Mild c m) (k : Nat) (x : FlD) (hx : -m ≤ x.get ∧ x.get ≤ m) : Mild { c with flows := c.flows.set k x } m :=
  ⟨by show (c.flows.set k x).length = _; rw [List.length_set]; exact h.len, h.sixty, h.get, fun f hf => by
    rcases List.mem_or_eq_of_mem_set hf with e | e
    · exact h.flw f e
    · rw [e]; exact hx⟩
theorem Mild.hap {c : CnD} {m : Int} (h : Mild c m) (id ev : Int) : Mild (hapD c id ev) m :=
  ⟨by show c.flows.length = (happenRaw c.reg id ev).1.es.length; rw [hap_len]; exact h.len, by show (happenRaw c.reg id ev).1.es.length ≤ 60; rw [hap_len]; exact h.sixty, h.get, h.flw⟩
theorem Mild.grant {c : CnD} {m n id : Int} (h : Mild c m) (hn : 0 ≤ n) : Mild (grantD c id n).1 (m + n) := by
  unfold grantD
  split
  · exact h.wide (by omega)
  · split
    · exact (h.wide (by omega)).setGet (by have := h.get; omega)
    · cases ha : atE c.reg.es id with
      | none => rw [atFl_none ha]; exact h.wide (by omega)
      | some k =>
        obtain ⟨hk, _, _⟩ := atE_some ha
        have hkf : k < c.flows.length := by have := h.len; omega
        rw [atFl_some ha, modify_is _ _ hkf]
        exact (h.wide (by omega)).setFlow k _ (by have := h.flw c.flows[k] (List.getElem_mem hkf); dsimp only; omega)
theorem Here.grant {w W : World} {g : Nat} {bs bx : List Nat} {f : Fr} {C : CnD} (h : Here w g bs f W C bx) (id n m : Int) (hm : Mild C m) (hm9 : m ≤ 1000000000) (h0 : 0 ≤ n) (h1 : n ≤ 16777215) (hid : id = 0 ∨ ∃ k, atE C.reg.es id = some k) :
    Calls Tryz.prog 153 #[.pointer (some ⟨g, 0, none⟩), .int .i64 id, .int .i64 n] W fun x W' => ∃ v, x = .returned v ∧ Here w g bs f W' (grantD C id n).1 bx ∧ W'.ownsRow w.heap.size 34 4 v (grantD C id n).2.length (fr (grantD C id n).2) ∧ (∀ q, v.ownBlock = some q → W.heap.size ≤ q ∧ q < W'.heap.size ∧ w.heap.size ≤ q ∧ q ∉ g :: bx) ∧ TurnB (g :: bx) W W' := by
  refine (grantM g C bx id n W h.c h0 h1 hid hm.len (by have := hm.sixty; omega) (by have := hm.get; omega) (fun x hx => by have := hm.flw x hx; omega)).mono ?_
  rintro x W' ⟨v, rfl, hc, ho, ht⟩
  have hlt := h.lt
  exact ⟨v, rfl, h.turn hc ht (NewB.refl _ _), owns_base ho (fun q hq => by have := (ho.lt q hq).1; omega), fun q hq => ⟨(ho.lt q hq).1, (ho.lt q hq).2, by have := (ho.lt q hq).1; omega, fun hx => by have := h.c.lts q hx; have := (ho.lt q hq).1; omega⟩, ht⟩
theorem Here.hap {w W : World} {g : Nat} {bs bx : List Nat} {f : Fr} {C : CnD} (h : Here w g bs f W C bx) (id ev : Int) :
    Calls Tryz.prog 119 #[.pointer (some ⟨g, 0, none⟩), .int .i64 id, .int .i64 ev] W fun x W' => ∃ bz, x = .returned (.bool (happenRaw C.reg id ev).2) ∧ Here w g bs f W' (hapD C id ev) bz := by
  refine (hapM g C bx id ev W h.c).mono ?_
  rintro x W' ⟨bz, rfl, hc, ht, hn⟩
  exact ⟨bz, rfl, h.turn hc ht hn⟩
end Go.Proofs.YtfmeinkhdgbgjaaGreat
/- The program's copy of a Flow, of a Conn; its link. -/
namespace Go.Proofs.YtfmeinkhdgbgjaaGreat
open Go.RowKit
set_option maxRecDepth 100000
set_option linter.unusedSimpArgs false
set_option linter.unusedVariables false
set_option maxHeartbeats 8000000 in
theorem implFlowApart (x : FlD) (v : Value) (w : World) (hr : RdR fieldS w v x.fds) (hok : okFs x.fds = true) (h1 : x.tun.up.b.size ≤ 1000000) (h2 : x.tun.dn.b.size ≤ 1000000) :
    Calls Tryz.prog 331 #[.agg (flcs x v).toArray] w fun e w' => ∃ v', e = .returned (.agg (flcs x v').toArray) ∧ w'.ownsRow w.heap.size 163 2 v' x.fds.length (fv x.fds) ∧ Below w.heap.size w w' := by
  obtain ⟨aa, pa, rfl, q1, q2⟩ := hr.form
  have HV := hide hr; have HOK := hide hok
  clear hr hok
  have hbA : Below w.heap.size w ((w.alloc (.cells #[.int .i64 x.id, .int .i64 x.get, .int .i64 x.give, .slice aa x.fds.length pa, .int .i64 x.tun.up.r, .string x.tun.up.b, .bool x.tun.up.e, .bool x.tun.up.k, .int .i64 x.tun.dn.r, .string x.tun.dn.b, .bool x.tun.dn.e, .bool x.tun.dn.k, .int .i64 x.tun.went, .int .i64 x.tun.came, .bool x.ended] 57)).alloc (.cells #[.int .i64 0, .int .i64 0, .int .i64 0, .slice none 0 0, .int .i64 0, .string ⟨#[]⟩, .bool false, .bool false, .int .i64 0, .string ⟨#[]⟩, .bool false, .bool false, .int .i64 0, .int .i64 0, .bool false] 57)) := ((Below.refl _ _).alloc (Nat.le_refl _) _).alloc (by simp) _
  have RA := (rowIs_new w 57 [.int .i64 x.id, .int .i64 x.get, .int .i64 x.give, .slice aa x.fds.length pa, .int .i64 x.tun.up.r, .string x.tun.up.b, .bool x.tun.up.e, .bool x.tun.up.k, .int .i64 x.tun.dn.r, .string x.tun.dn.b, .bool x.tun.dn.e, .bool x.tun.dn.k, .int .i64 x.tun.went, .int .i64 x.tun.came, .bool x.ended]).alloc (.cells #[.int .i64 0, .int .i64 0, .int .i64 0, .slice none 0 0, .int .i64 0, .string ⟨#[]⟩, .bool false, .bool false, .int .i64 0, .string ⟨#[]⟩, .bool false, .bool false, .int .i64 0, .int .i64 0, .bool false] 57)
  have RZ := rowIs_new (w.alloc (.cells #[.int .i64 x.id, .int .i64 x.get, .int .i64 x.give, .slice aa x.fds.length pa, .int .i64 x.tun.up.r, .string x.tun.up.b, .bool x.tun.up.e, .bool x.tun.up.k, .int .i64 x.tun.dn.r, .string x.tun.dn.b, .bool x.tun.dn.e, .bool x.tun.dn.k, .int .i64 x.tun.went, .int .i64 x.tun.came, .bool x.ended] 57)) 57 [.int .i64 0, .int .i64 0, .int .i64 0, .slice none 0 0, .int .i64 0, .string ⟨#[]⟩, .bool false, .bool false, .int .i64 0, .string ⟨#[]⟩, .bool false, .bool false, .int .i64 0, .int .i64 0, .bool false]
  have hsz : (w.alloc (.cells #[.int .i64 x.id, .int .i64 x.get, .int .i64 x.give, .slice aa x.fds.length pa, .int .i64 x.tun.up.r, .string x.tun.up.b, .bool x.tun.up.e, .bool x.tun.up.k, .int .i64 x.tun.dn.r, .string x.tun.dn.b, .bool x.tun.dn.e, .bool x.tun.dn.k, .int .i64 x.tun.went, .int .i64 x.tun.came, .bool x.ended] 57)).heap.size = w.heap.size + 1 := by simp
  have hs2 : ((w.alloc (.cells #[.int .i64 x.id, .int .i64 x.get, .int .i64 x.give, .slice aa x.fds.length pa, .int .i64 x.tun.up.r, .string x.tun.up.b, .bool x.tun.up.e, .bool x.tun.up.k, .int .i64 x.tun.dn.r, .string x.tun.dn.b, .bool x.tun.dn.e, .bool x.tun.dn.k, .int .i64 x.tun.went, .int .i64 x.tun.came, .bool x.ended] 57)).alloc (.cells #[.int .i64 0, .int .i64 0, .int .i64 0, .slice none 0 0, .int .i64 0, .string ⟨#[]⟩, .bool false, .bool false, .int .i64 0, .string ⟨#[]⟩, .bool false, .bool false, .int .i64 0, .int .i64 0, .bool false] 57)).heap.size = w.heap.size + 2 := by simp
  rw [hsz] at RZ
  obtain ⟨V, hV⟩ : ∃ V, (w.alloc (.cells #[.int .i64 x.id, .int .i64 x.get, .int .i64 x.give, .slice aa x.fds.length pa, .int .i64 x.tun.up.r, .string x.tun.up.b, .bool x.tun.up.e, .bool x.tun.up.k, .int .i64 x.tun.dn.r, .string x.tun.dn.b, .bool x.tun.dn.e, .bool x.tun.dn.k, .int .i64 x.tun.went, .int .i64 x.tun.came, .bool x.ended] 57)).alloc (.cells #[.int .i64 0, .int .i64 0, .int .i64 0, .slice none 0 0, .int .i64 0, .string ⟨#[]⟩, .bool false, .bool false, .int .i64 0, .string ⟨#[]⟩, .bool false, .bool false, .int .i64 0, .int .i64 0, .bool false] 57) = V := ⟨_, rfl⟩
  rw [hV] at hbA RA RZ hs2
  have HB := hide hbA; have HZ := hide RZ
  have HS2 : Hid (w.heap.size + 2 ≤ V.heap.size) := by show _ ≤ _; omega
  clear hsz hs2 hbA RZ
  go_enter Tryz.func331, Tryz.ntmps331
  go_upto_region 1 with fail
  try rw [hV]
  clear hV
  have x3 := RowIs.cell (j := 3) RA rfl
  go_wp2_with fail
  refine (implEachField x.fds _ _ (HV.out.new HB.out) HOK.out).mono ?_; rintro e w1 ⟨vb, rfl, ho, hb⟩
  obtain ⟨ab, pb, rfl, p1, p2⟩ := owns_form ho
  have RB := RA.new hb
  have hzb := HZ.out.new hb
  have HBB := hide (bchain HB.out hb)
  have HS3 : Hid (w.heap.size + 2 ≤ w1.heap.size) := Nat.le_trans HS2.out hb.size
  have HO := hide (owns_base (base' := w.heap.size + 2) ho (fun q hq => Nat.le_trans HS2.out (owns_lt ho q hq).1))
  clear x3 RA HZ HB hb ho
  have x3 := RowIs.cell (j := 3) RB rfl
  have xf := RowIs.frozen RB 3
  have xl := RB.lt
  go_upto_region 2 with fail
  have HR2 := hide (RB.set 3 (.slice ab x.fds.length pb))
  have HZ2 := hide (hzb.far ⟨w.heap.size, 3, none⟩ (.slice ab x.fds.length pb) (by simp))
  have HO2 := hide (owns_apart HO.out ⟨w.heap.size, 3, none⟩ (.slice ab x.fds.length pb) (fun e => by have := (owns_lt HO.out _ e).1; dsimp only at this; omega))
  have HB2 := hide (HBB.out.setCell (p := ⟨w.heap.size, 3, none⟩) (Nat.le_refl _) (.slice ab x.fds.length pb))
  have HS4 : Hid (w.heap.size + 2 ≤ (w1.setCell ⟨w.heap.size, 3, none⟩ (.slice ab x.fds.length pb)).heap.size) := by show _ ≤ _; simpa using HS3.out
  clear x3 xf xl RB hzb HO HBB HS3 HS2
  generalize w1.setCell ⟨w.heap.size, 3, none⟩ (.slice ab x.fds.length pb) = w2 at *
  replace HR2 : Hid (RowIs w2 w.heap.size 57 [.int .i64 x.id, .int .i64 x.get, .int .i64 x.give, .slice ab x.fds.length pb, .int .i64 x.tun.up.r, .string x.tun.up.b, .bool x.tun.up.e, .bool x.tun.up.k, .int .i64 x.tun.dn.r, .string x.tun.dn.b, .bool x.tun.dn.e, .bool x.tun.dn.k, .int .i64 x.tun.went, .int .i64 x.tun.came, .bool x.ended]) := HR2.out
  have HZ := HZ2; have HO := HO2; have HB := HB2
  clear HZ2 HO2 HB2
  have hp : MidIs w2 w.heap.size 57 [.int .i64 x.id, .int .i64 x.get, .int .i64 x.give, .slice ab x.fds.length pb] [.bool x.ended] 4 (tucs x.tun) := ⟨HR2.out, rfl⟩
  have HP := hide hp
  clear hp
  go_wp2_with (refine wpList_load_mid (by rfl) 55 _ (by rfl) w.heap.size 4 (by rfl) (tucs x.tun) _ (fun j u hu => HP.out.cell hu) Tryz.underlying55 rfl (by kernel_rfl) ?_)
  refine (lanes16 x.tun _).mono ?_; rintro e w3 ⟨rfl, hb3⟩
  replace HP := hide (HP.out.new hb3)
  replace HZ := hide (HZ.out.new hb3)
  replace HO := hide (owns_new HO.out hb3)
  replace HB := hide (bchain HB.out hb3)
  clear hb3 HR2
  go_wp2_with fail
  refine (lanesTunnel16 x.tun _ (by omega) (by omega)).mono ?_; rintro e w4 ⟨rfl, hb4⟩
  replace HP := hide (HP.out.new hb4)
  replace HZ := hide (HZ.out.new hb4)
  replace HO := hide (owns_new HO.out hb4)
  replace HB := hide (bchain HB.out hb4)
  clear hb4
  go_upto_region 3 with (refine wpList_store_mid (by rfl) 55 _ _ (by rfl) w.heap.size 4 (tucs x.tun) (by rfl) (by rfl) 57 _ _ _ HP.out (by kernel_rfl) rfl (by intro u hu; simp at hu; rcases hu with rfl | rfl | rfl | rfl | rfl | rfl | rfl | rfl | rfl | rfl <;> rfl) ?_; intro w5 hm5 ht5)
  have HR5 : Hid (RowIs w5 w.heap.size 57 [.int .i64 x.id, .int .i64 x.get, .int .i64 x.give, .slice ab x.fds.length pb, .int .i64 x.tun.up.r, .string x.tun.up.b, .bool x.tun.up.e, .bool x.tun.up.k, .int .i64 x.tun.dn.r, .string x.tun.dn.b, .bool x.tun.dn.e, .bool x.tun.dn.k, .int .i64 x.tun.went, .int .i64 x.tun.came, .bool x.ended]) := hm5.row
  have HZ5 := hide (HZ.out.kept (ht5.block _ HZ.out.lt (by simp)))
  have HO5 := hide (owns_kept HO.out (fun q hq hl => ht5.block q hl (by have := (owns_lt HO.out q hq).1; simp; omega)))
  have HB5 : Hid (Below w.heap.size w w5) := ⟨ht5.os.trans HB.out.os, ht5.tape.trans HB.out.tape, ht5.output.trans HB.out.output, Nat.le_trans HB.out.size ht5.size, fun q hq => (ht5.block q (Nat.lt_of_lt_of_le hq HB.out.size) (by simp; omega)).trans (HB.out.block q hq)⟩
  clear hm5 ht5 HP HZ HO HB
  have HZ6 := hide (rowIs_setRow (cs' := [.int .i64 x.id, .int .i64 x.get, .int .i64 x.give, .slice ab x.fds.length pb, .int .i64 x.tun.up.r, .string x.tun.up.b, .bool x.tun.up.e, .bool x.tun.up.k, .int .i64 x.tun.dn.r, .string x.tun.dn.b, .bool x.tun.dn.e, .bool x.tun.dn.k, .int .i64 x.tun.went, .int .i64 x.tun.came, .bool x.ended]) HZ5.out)
  have HB6 := hide (below_setRow HB5.out (show w.heap.size ≤ w.heap.size + 1 by omega) #[.int .i64 x.id, .int .i64 x.get, .int .i64 x.give, .slice ab x.fds.length pb, .int .i64 x.tun.up.r, .string x.tun.up.b, .bool x.tun.up.e, .bool x.tun.up.k, .int .i64 x.tun.dn.r, .string x.tun.dn.b, .bool x.tun.dn.e, .bool x.tun.dn.k, .int .i64 x.tun.went, .int .i64 x.tun.came, .bool x.ended])
  have HO6 := hide (owns_kept HO5.out (w' := w5.setRow (w.heap.size + 1) #[.int .i64 x.id, .int .i64 x.get, .int .i64 x.give, .slice ab x.fds.length pb, .int .i64 x.tun.up.r, .string x.tun.up.b, .bool x.tun.up.e, .bool x.tun.up.k, .int .i64 x.tun.dn.r, .string x.tun.dn.b, .bool x.tun.dn.e, .bool x.tun.dn.k, .int .i64 x.tun.went, .int .i64 x.tun.came, .bool x.ended]) (fun q hq hl => setRow_other _ _ _ _ (by have := (owns_lt HO5.out q hq).1; omega)))
  go_wp2_with (first | (refine wpList_load_row (by rfl) 57 _ (by rfl) w.heap.size (by rfl) [.int .i64 x.id, .int .i64 x.get, .int .i64 x.give, .slice ab x.fds.length pb, .int .i64 x.tun.up.r, .string x.tun.up.b, .bool x.tun.up.e, .bool x.tun.up.k, .int .i64 x.tun.dn.r, .string x.tun.dn.b, .bool x.tun.dn.e, .bool x.tun.dn.k, .int .i64 x.tun.went, .int .i64 x.tun.came, .bool x.ended] _ 57 HR5.out Tryz.underlying57 rfl (by kernel_rfl) ?_) | (refine wpList_store_row (by rfl) 57 _ _ (by rfl) (w.heap.size + 1) [.int .i64 x.id, .int .i64 x.get, .int .i64 x.give, .slice ab x.fds.length pb, .int .i64 x.tun.up.r, .string x.tun.up.b, .bool x.tun.up.e, .bool x.tun.up.k, .int .i64 x.tun.dn.r, .string x.tun.dn.b, .bool x.tun.dn.e, .bool x.tun.dn.k, .int .i64 x.tun.went, .int .i64 x.tun.came, .bool x.ended] (by rfl) (by rfl) 57 [.int .i64 0, .int .i64 0, .int .i64 0, .slice none 0 0, .int .i64 0, .string ⟨#[]⟩, .bool false, .bool false, .int .i64 0, .string ⟨#[]⟩, .bool false, .bool false, .int .i64 0, .int .i64 0, .bool false] HZ5.out (by kernel_rfl) rfl (by intro u hu; simp at hu; rcases hu with rfl | rfl | rfl | rfl | rfl | rfl | rfl | rfl | rfl | rfl | rfl | rfl | rfl | rfl | rfl <;> rfl) ?_))
  generalize w5.setRow (w.heap.size + 1) #[.int .i64 x.id, .int .i64 x.get, .int .i64 x.give, .slice ab x.fds.length pb, .int .i64 x.tun.up.r, .string x.tun.up.b, .bool x.tun.up.e, .bool x.tun.up.k, .int .i64 x.tun.dn.r, .string x.tun.dn.b, .bool x.tun.dn.e, .bool x.tun.dn.k, .int .i64 x.tun.went, .int .i64 x.tun.came, .bool x.ended] = w6 at *
  have z0 := RowIs.cell (j := 0) HZ6.out rfl
  have z1 := RowIs.cell (j := 1) HZ6.out rfl
  have z2 := RowIs.cell (j := 2) HZ6.out rfl
  have z3 := RowIs.cell (j := 3) HZ6.out rfl
  have z4 := RowIs.cell (j := 4) HZ6.out rfl
  have z5 := RowIs.cell (j := 5) HZ6.out rfl
  have z6 := RowIs.cell (j := 6) HZ6.out rfl
  have z7 := RowIs.cell (j := 7) HZ6.out rfl
  have z8 := RowIs.cell (j := 8) HZ6.out rfl
  have z9 := RowIs.cell (j := 9) HZ6.out rfl
  have z10 := RowIs.cell (j := 10) HZ6.out rfl
  have z11 := RowIs.cell (j := 11) HZ6.out rfl
  have z12 := RowIs.cell (j := 12) HZ6.out rfl
  have z13 := RowIs.cell (j := 13) HZ6.out rfl
  have z14 := RowIs.cell (j := 14) HZ6.out rfl
  have zf := fun j => RowIs.frozen HZ6.out j
  refine bodyPost_ret (v := .agg #[.int .i64 x.id, .int .i64 x.get, .int .i64 x.give, .slice ab x.fds.length pb, .int .i64 x.tun.up.r, .string x.tun.up.b, .bool x.tun.up.e, .bool x.tun.up.k, .int .i64 x.tun.dn.r, .string x.tun.dn.b, .bool x.tun.dn.e, .bool x.tun.dn.k, .int .i64 x.tun.went, .int .i64 x.tun.came, .bool x.ended]) (by simp [results, Tryz.results331, go_sem, *]) rfl ?_
  exact ⟨_, rfl, owns_base HO6.out (fun q hq => by have := (owns_lt HO6.out q hq).1; omega), HB6.out⟩
end Go.Proofs.YtfmeinkhdgbgjaaGreat
/- The program's link in a block: a Conn in memory of its own, and what is told beside it; what a step leaves. -/
namespace Go.Proofs.YtfmeinkhdgbgjaaGreat
open Go.RowKit
set_option maxRecDepth 100000
set_option linter.unusedSimpArgs false
set_option linter.unusedVariables false
abbrev lkcs (d : CnD) (ve vi vo vf tv : Value) : List Value := [.int .i64 d.reg.lim, .int .i64 d.reg.top, ve, .int .i64 d.inr, vi, .int .i64 d.outr, vo, .int .i64 d.get, .int .i64 d.give, .int .i64 d.first, vf, .bool d.away, .bool d.dead, tv]
/-- A link in block g: its lists lie among the blocks bs, all of them from lo on. -/
structure LkM (w : World) (lo g : Nat) (d : CnD) (L : List Fr) (bs : List Nat) : Prop where
  ex : ∃ ve vi vo vf tv cb, RowIs w g 84 (lkcs d ve vi vo vf tv) ∧ CnOw w cb d ve vi vo vf ∧ w.ownsRow lo 34 4 tv L.length (fr L) ∧ (∀ x ∈ cb, x ∈ bs) ∧ ∀ q, tv.ownBlock = some q → q ∈ bs ∧ q ∉ cb
  lt : ∀ b ∈ g :: bs, b < w.heap.size
  low : ∀ b ∈ bs, lo ≤ b
  ng : g ∉ bs
  base : lo ≤ w.heap.size
/-- Where a step stands: the link, what has turned, which blocks are new. -/
structure Lnk (lo g : Nat) (w : World) (bs : List Nat) (W : World) (d : CnD) (L : List Fr) (bx : List Nat) : Prop where
  m : LkM W lo g d L bx
  t : TurnB (g :: bs) w W
  n : NewB w bs bx
section
variable {w w' : World} {cb : List Nat} {d : CnD} {ve vi vo vf : Value}
end
section
variable {w w' W W' : World} {lo g : Nat} {d d' : CnD} {L L' : List Fr} {bs bx by_ : List Nat}
theorem LkM.new (h : LkM w lo g d L bs) (hb : Below w.heap.size w w') : LkM w' lo g d L bs := by
  obtain ⟨⟨ve, vi, vo, vf, tv, cb, h1, h2, h3, h4, h5⟩, hl, hlo, hn, hbs⟩ := h
  exact ⟨⟨ve, vi, vo, vf, tv, cb, h1.new hb, h2.new hb, owns_new h3 hb, h4, h5⟩, fun b hb' => Nat.lt_of_lt_of_le (hl b hb') hb.size, hlo, hn, Nat.le_trans hbs hb.size⟩
theorem LkM.glt (h : LkM w lo g d L bs) : g < w.heap.size := h.lt g (by simp)
theorem Lnk.start (h : LkM w lo g d L bs) : Lnk lo g w bs w d L bs := ⟨h, TurnB.refl _ _, NewB.refl _ _⟩
theorem Lnk.new (h : Lnk lo g w bs W d L bx) (hb : Below W.heap.size W W') : Lnk lo g w bs W' d L bx := ⟨h.m.new hb, h.t.trans (TurnB.new hb), h.n⟩
theorem Lnk.step (h : Lnk lo g w bs W d L bx) (k : Lnk lo g W bx W' d' L' by_) : Lnk lo g w bs W' d' L' by_ := ⟨k.m, h.t.then h.n k.t, h.n.trans k.n h.t.size⟩
theorem Lnk.after (hb : Below w.heap.size w W) (h : Lnk lo g W bs W' d L bx) : Lnk lo g w bs W' d L bx := ⟨h.m, (TurnB.new hb).trans h.t, fun b hb' => (h.n b hb').imp id (Nat.le_trans hb.size)⟩
/-- A box that was there ahead of the steps, apart from the link. -/
theorem Lnk.box {q : Nat} {ty : TypeId} {cs : List Value} (h : Lnk lo g w bs W d L bx) (hr : RowIs w q ty cs) (hn : q ∉ g :: bs) : RowIs W q ty cs := hr.kept (h.t.block q hr.lt hn)
theorem LkM.far {q : Nat} (h : LkM w lo g d L bs) (hq : w.heap.size ≤ q) : q ∉ g :: bs := fun hx => by have := h.lt q hx; omega
/-- One cell of the link set. -/
theorem LkM.set (h : LkM w lo g d L bs) (j : Nat) (v : Value) (d' : CnD) (hd : ∀ ve vi vo vf tv, (lkcs d ve vi vo vf tv).set j v = lkcs d' ve vi vo vf tv) (hc : ∀ u cb ve vi vo vf, CnOw u cb d ve vi vo vf → CnOw u cb d' ve vi vo vf) :
    Lnk lo g w bs (w.setCell ⟨g, j, none⟩ v) d' L bs := by
  obtain ⟨⟨ve, vi, vo, vf, tv, cb, h1, h2, h3, h4, h5⟩, hl, hlo, hn, hbs⟩ := h
  have hk : ∀ b ∈ bs, (w.setCell ⟨g, j, none⟩ v).heap[b]? = w.heap[b]? := CnM.keepSet hn rfl v
  have hr := h1.set j v
  rw [hd] at hr
  exact ⟨⟨⟨ve, vi, vo, vf, tv, cb, hr, hc _ _ _ _ _ _ (h2.keep (by simp) (fun b hb => hk b (h4 b hb))), owns_kept h3 (fun q hq _ => hk q (h5 q hq).1), h4, h5⟩, fun b hb => by have := hl b hb; simpa using this, hlo, hn, by simpa using hbs⟩, (TurnB.refl _ _).set _ _ (by simp), NewB.refl _ _⟩
theorem LkM.setGet (h : LkM w lo g d L bs) (n : Int) : Lnk lo g w bs (w.setCell ⟨g, 7, none⟩ (.int .i64 n)) { d with get := n } L bs := h.set 7 _ _ (fun _ _ _ _ _ => rfl) (fun _ _ _ _ _ _ h => ⟨h.1, h.2⟩)
theorem LkM.setGive (h : LkM w lo g d L bs) (n : Int) : Lnk lo g w bs (w.setCell ⟨g, 8, none⟩ (.int .i64 n)) { d with give := n } L bs := h.set 8 _ _ (fun _ _ _ _ _ => rfl) (fun _ _ _ _ _ _ h => ⟨h.1, h.2⟩)
/-- What is told, opened for one more frame. -/
theorem LkM.told (h : LkM w lo g d L bs) : ∃ ve vi vo vf tv, RowIs w g 84 (lkcs d ve vi vo vf tv) ∧ w.ownsRow lo 34 4 tv L.length (fr L) ∧ (∀ q, tv.ownBlock = some q → g ≠ q) ∧ ∀ (w1 : World) (v' : Value) (f : Fr) (n : Nat), w1.ownsRow lo 34 4 v' n (fr L ++ fr [f]) → n = L.length + 1 → w.grownBy w1 tv.ownBlock → (v'.ownBlock = tv.ownBlock ∨ v'.ownBlock = some w.heap.size) →
      ∃ bx, Lnk lo g w bs (w1.setCell ⟨g, 13, none⟩ v') d (L ++ [f]) bx := by
  have hlts := h.lt
  have hb0 := h.base
  obtain ⟨⟨ve, vi, vo, vf, tv, cb, h1, h2, h3, h4, h5⟩, hl, hlo, hn, hbs⟩ := h
  refine ⟨ve, vi, vo, vf, tv, h1, h3, fun q hq e => hn (e ▸ (h5 q hq).1), fun w1 v' f n ho hn1 hg hat => ?_⟩
  subst hn1
  have hgl := hl g (by simp)
  have hk : ∀ b, b < w.heap.size → b ≠ g → (∀ q, tv.ownBlock = some q → b ≠ q) → (w1.setCell ⟨g, 13, none⟩ v').heap[b]? = w.heap[b]? := fun b hb hbg hbt => by
    rw [Below.heap_setCell _ _ _ b hbg]
    exact hg.block b hb (fun e => hbt b e.symm rfl)
  have hgt : ∀ q, tv.ownBlock = some q → g ≠ q := fun q hq e => hn (e ▸ (h5 q hq).1)
  have hgv : ∀ q, v'.ownBlock = some q → q ≠ g := fun q hq e => by
    rcases hat with a | a
    · exact hgt q (a ▸ hq) e.symm
    · rw [hq] at a; have := Option.some.inj a; omega
  have r1 : RowIs w1 g 84 (lkcs d ve vi vo vf tv) := h1.kept (hg.block g hgl (fun e => hgt g e.symm rfl))
  have hsz : (w1.setCell ⟨g, 13, none⟩ v').heap.size = w1.heap.size := by simp
  have hgs := hg.size
  refine ⟨bs ++ v'.ownBlock.toList, ⟨⟨ve, vi, vo, vf, v', cb, r1.set 13 v', h2.keep (by omega) (fun b hb => hk b (hl b (by simp [h4 b hb])) (fun e => hn (e ▸ h4 b hb)) (fun q hq e => (h5 q hq).2 (e ▸ hb))), ?_, fun x hx => List.mem_append_left _ (h4 x hx), fun q hq => ⟨by simp [hq], fun hx => ?_⟩⟩, fun b hb => ?_, fun b hb => ?_, fun hx => ?_, by omega⟩, ?_, fun b hb => ?_⟩
  · have e : fr (L ++ [f]) = fr L ++ fr [f] := by simp [fr]
    rw [e, List.length_append]
    exact owns_kept ho (fun q hq _ => Below.heap_setCell _ _ _ q (hgv q hq))
  · rcases hat with a | a
    · exact (h5 q (a ▸ hq)).2 hx
    · rw [hq] at a; have := Option.some.inj a; have := hl q (by simp [h4 q hx]); omega
  · rw [hsz]
    rcases List.mem_cons.1 hb with e | e
    · have := hl b (by simp [e]); omega
    · rcases List.mem_append.1 e with e | e
      · have := hl b (by simp [e]); omega
      · have hq : v'.ownBlock = some b := by cases hv : v'.ownBlock <;> simp [hv] at e ⊢; exact e.symm
        exact (owns_lt ho b hq).2
  · rcases List.mem_append.1 hb with e | e
    · exact hlo b e
    · have hq : v'.ownBlock = some b := by cases hv : v'.ownBlock <;> simp [hv] at e ⊢; exact e.symm
      exact (owns_lt ho b hq).1
  · rcases List.mem_append.1 hx with e | e
    · exact hn e
    · have hq : v'.ownBlock = some g := by cases hv : v'.ownBlock <;> simp [hv] at e ⊢; exact e.symm
      exact hgv g hq rfl
  · exact ⟨hg.os, hg.tape, hg.output, by omega, fun k hk1 hk2 => hk k hk1 (fun e => hk2 (by simp [e])) (fun q hq e => hk2 (by rw [e]; simp [(h5 q hq).1]))⟩
  · rcases List.mem_append.1 hb with e | e
    · exact .inl e
    · have hq : v'.ownBlock = some b := by cases hv : v'.ownBlock <;> simp [hv] at e ⊢; exact e.symm
      rcases hat with a | a
      · exact .inl (h5 b (a ▸ hq)).1
      · rw [hq] at a; have := Option.some.inj a; exact .inr (by omega)
/-- The k-th Flow of a link, and the link behind a change of it that leaves its Fields. -/
theorem LkM.flw (h : LkM w lo g d L bs) (k : Nat) (hk : k < d.flows.length) :
    ∃ gf A C ve vi vo cap v0 tv, RowIs w g 84 (lkcs d ve vi vo (.slice (some ⟨gf, 0, none⟩) d.flows.length cap) tv) ∧ gf ∈ bs ∧ gf < w.heap.size ∧ g ≠ gf ∧ MidIs w gf 57 A C (k * 15) (flcs d.flows[k] v0) ∧ d.flows[k].tun.up.b.size ≤ 9223372036854775807 ∧ d.flows[k].tun.dn.b.size ≤ 9223372036854775807 ∧
      ∀ w' f', f'.fds = d.flows[k].fds → f'.tun.up.b.size ≤ 9223372036854775807 → f'.tun.dn.b.size ≤ 9223372036854775807 → MidIs w' gf 57 A C (k * 15) (flcs f' v0) → TurnB [gf] w w' → Lnk lo g w bs w' { d with flows := d.flows.set k f' } L bs := by
  obtain ⟨⟨ve, vi, vo, vf, tv, cb, hrow, ⟨⟨be, bi, bo, bf, h1, h2, h3, h4, rfl⟩, hn⟩, h5, h6, h7⟩, hl, hlo, hng, hbs⟩ := h
  have hn4 : bf.Nodup := nodup_right hn
  have hdis : ∀ x ∈ bf, x ∉ be ++ bi ++ bo := fun x hx hx2 => nodup_apart hn x hx2 hx
  obtain ⟨gf, cap, cs, b, A, C, rfl, hgl, hgm, hgb, hsub, hown, hmid, hA, hput⟩ := h4.mid hn4 k hk
  obtain ⟨v0, bq, rfl, f0, f1, g1, rfl⟩ := hown
  have hgm2 : gf ∈ be ++ bi ++ bo ++ bf := by simp [hgm]
  have hgb2 : gf ∈ bs := h6 gf hgm2
  have hgg : g ≠ gf := fun e => hng (by rw [e]; exact hgb2)
  refine ⟨gf, A, C, ve, vi, vo, cap, v0, tv, hrow, hgb2, hgl, hgg, ⟨hmid, by rw [hA]; rfl⟩, f0, f1, ?_⟩
  intro w' f' hfe t1 t2 hm' ht
  have hk1 : ∀ x, x < w.heap.size → x ≠ gf → w'.heap[x]? = w.heap[x]? := fun x hx hne => ht.block x hx (by simpa using hne)
  have hk0 : ∀ x ∈ be ++ bi ++ bo, x ≠ gf := fun x hx e => hdis gf hgm (e ▸ hx)
  have hb0k : ∀ x ∈ b, w'.heap[x]? = w.heap[x]? := fun x hx => hk1 x (g1.lt x hx) (fun e => hgb (e ▸ hx))
  have hO := hput w' _ f' hm'.row ⟨v0, b, rfl, t1, t2, by rw [hfe]; exact g1.keep ht.size hb0k, rfl⟩ ht.size (fun x hx hne => hk1 x (h4.lt x hx) hne)
  have hsz := ht.size
  refine ⟨⟨⟨ve, vi, vo, .slice (some ⟨gf, 0, none⟩) d.flows.length cap, tv, be ++ bi ++ bo ++ bf, hrow.kept (hk1 g hrow.lt hgg), ⟨⟨be, bi, bo, bf, h1.keep hsz (fun x hx => hk1 x (h1.lt x hx) (hk0 x (by simp [hx]))), h2.keep hsz (fun x hx => hk1 x (h2.lt x hx) (hk0 x (by simp [hx]))), h3.keep hsz (fun x hx => hk1 x (h3.lt x hx) (hk0 x (by simp [hx]))), hO, rfl⟩, hn⟩, owns_kept h5 (fun q hq hq2 => hk1 q hq2 (fun e => (h7 q hq).2 (e ▸ hgm2))), h6, h7⟩, fun b hb => Nat.lt_of_lt_of_le (hl b hb) hsz, hlo, hng, by omega⟩, ht.wide (fun x hx => by simp at hx; subst hx; simp [hgb2]), NewB.refl _ _⟩
end
end Go.Proofs.YtfmeinkhdgbgjaaGreat
