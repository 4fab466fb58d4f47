/- Several small texts of one level, one behind the other. -/
import Derived.Test.YtllaeakeaabiaaaGreatQG33
import Derived.Test.YtllaeakeaabiaaaGreatQG3
import Derived.Test.YtllaeakeaabiaaaGreatQRegImpl
import Derived.Test.YtllaeakeaabiaaaGreatQG13
import Derived.Test.YtllaeakeaabiaaaGreatQG7
import Derived.Test.YtllaeakeaabiaaaGreatQG5
import Derived.Test.YtllaeakeaabiaaaGreatQG28
import Derived.Test.YtllaeakeaabiaaaGreatQG25
import Derived.Deep.DeepMust
/- Where a step in place stands: the Conn, what has turned since the call, the frame that came in, in its box. -/
namespace Go.Proofs.YtllaeakeaabiaaaGreat
open Go.RowKit
set_option maxRecDepth 100000
set_option linter.unusedSimpArgs false
set_option linter.unusedVariables false
structure Here (w : World) (g : Nat) (bs : List Nat) (f : Fr) (W : World) (C : CnD) (bx : List Nat) : Prop where
  c : CnM W g C bx
  t : TurnB (g :: bs) w W
  n : NewB w bs bx
  r : RowIs W w.heap.size 48 [.int .i64 f.k, .int .i64 f.fl, .int .i64 f.st, .string f.b]
  x : w.heap.size ∉ g :: bx
section
variable {w W W' : World} {g : Nat} {bs bx : List Nat} {f : Fr} {C : CnD}
theorem Here.start (h : CnM w g C bs) (f : Fr) : Here w g bs f (w.alloc (.cells #[.int .i64 f.k, .int .i64 f.fl, .int .i64 f.st, .string f.b] 48)) C bs := by
  have hbW : Below w.heap.size w (w.alloc (.cells #[.int .i64 f.k, .int .i64 f.fl, .int .i64 f.st, .string f.b] 48)) := (Below.refl _ _).alloc (Nat.le_refl _) _
  exact ⟨h.new hbW, TurnB.new hbW, NewB.refl _ _, rowIs_new w 48 _, fun hx => by have := h.lts _ hx; omega⟩
theorem Here.new (h : Here w g bs f W C bx) (hb : Below W.heap.size W W') : Here w g bs f W' C bx := ⟨h.c.new hb, h.t.trans (TurnB.new hb), h.n, h.r.new hb, h.x⟩
theorem Here.lt (h : Here w g bs f W C bx) : w.heap.size < W.heap.size := h.r.lt
theorem Here.turn (h : Here w g bs f W C bx) {C' : CnD} {by_ : List Nat} (hc : CnM W' g C' by_) (ht : TurnB (g :: bx) W W') (hn : NewB W bx by_) : Here w g bs f W' C' by_ :=
  ⟨hc, h.t.then h.n ht, h.n.trans hn h.t.size, h.r.kept (ht.block _ h.r.lt h.x), fun hx => by
    rcases List.mem_cons.1 hx with e | e
    · exact h.x (by simp [e])
    · rcases hn _ e with e | e
      · exact h.x (by simp [e])
      · have := h.lt; omega⟩
theorem Here.done (h : Here w g bs f W C bx) {r : CnD × List Fr} {x : Ending} (hs : StepC W g bx r x W') : StepC w g bs r x W' := StepC.after h.t h.n hs
theorem CnM.grown {U U' : World} {bs2 : List Nat} {row : Option Nat} (h : CnM U g C bs2) (hg : U.grownBy U' row) (hr : ∀ q, row = some q → q ∉ g :: bs2) : CnM U' g C bs2 := by
  have hlts := h.lts
  obtain ⟨⟨ve, vi, vo, vf, h1, h2⟩, h3⟩ := h
  exact ⟨⟨ve, vi, vo, vf, h1.kept (hg.block g (hlts g (by simp)) (fun e => hr g e.symm (by simp))), h2.keep hg.size (fun b hb => hg.block b (hlts b (by simp [hb])) (fun e => hr b e.symm (by simp [hb])))⟩, h3⟩
/-- Frames behind frames: what append leaves. -/
theorem StepC.appended {U U' : World} {bs2 : List Nat} {L M : List Fr} {v v' : Value} (hc : CnM U g C bs2) (ht : TurnB (g :: bs) w U) (hn : NewB w bs bs2) (hv : ∀ q, v.ownBlock = some q → w.heap.size ≤ q ∧ q ∉ g :: bs2)
    (ho : U'.ownsRow w.heap.size 48 4 v' (L.length + M.length) (fr L ++ fr M)) (hg : U.grownBy U' v.ownBlock) (hat : v'.ownBlock = v.ownBlock ∨ v'.ownBlock = some U.heap.size) : StepC w g bs (C, L ++ M) (.returned v') U' := by
  refine ⟨v', bs2, rfl, hc.grown hg (fun q hq => (hv q hq).2), ?_, ⟨hg.os.trans ht.os, hg.tape.trans ht.tape, hg.output.trans ht.output, Nat.le_trans ht.size hg.size, fun k hk hn' => (hg.block k (Nat.lt_of_lt_of_le hk ht.size) (fun e => by have := (hv k e.symm).1; omega)).trans (ht.block k hk hn')⟩, hn, fun q hq hx => by
    rcases hat with e | e
    · exact (hv q (e ▸ hq)).2 hx
    · rw [hq] at e; have := hc.lts q hx; have := Option.some.inj e; omega⟩
  show U'.ownsRow _ _ _ _ (L ++ M).length (fr (L ++ M))
  rw [fr_app, List.length_append]
  exact ho
/-- A row of frames that was told, behind another step in place. -/
theorem frames_turn {W1 W2 : World} {v : Value} {L : List Fr} {base : Nat} (ho : W1.ownsRow base 48 4 v L.length (fr L)) (ht : TurnB (g :: bx) W1 W2) (hv : ∀ q, v.ownBlock = some q → q ∉ g :: bx) : W2.ownsRow base 48 4 v L.length (fr L) := owns_kept ho (fun k hk hl => ht.block k hl (hv k hk))
end
/-- Numbers that no step passes. -/
structure Mild (c : CnD) (m : Int) : Prop where
  len : c.flows.length = c.reg.es.length
  sixty : c.reg.es.length ≤ 60
  get : -m ≤ c.get ∧ c.get ≤ m
  flw : ∀ f ∈ c.flows, -m ≤ f.get ∧ f.get ≤ m
theorem mild_ok {c : CnD} (h : okCn c = true) : Mild c 16777215 := ⟨(cn_len h).1, (cn_len h).2, (cn_wins h).1, fun f hf => (cn_flow h hf).1⟩
theorem Mild.wide {c : CnD} {m m' : Int} (h : Mild c m) (hm : m ≤ m') : Mild c m' := ⟨h.len, h.sixty, by have := h.get; omega, fun f hf => by have := h.flw f hf; omega⟩
theorem Mild.setGet {c : CnD} {m n : Int} (h : Mild c m) (hn : -m ≤ n ∧ n ≤ m) : Mild { c with get := n } m := ⟨h.len, h.sixty, hn, h.flw⟩
theorem Mild.setFlow {c : CnD} {m : Int} (h : Mild c m) (k : Nat) (x : FlD) (hx : -m ≤ x.get ∧ x.get ≤ m) : Mild { c with flows := c.flows.set k x } m :=
  ⟨by show (c.flows.set k x).length = _; rw [List.length_set]; exact h.len, h.sixty, h.get, fun f hf => by
    rcases List.mem_or_eq_of_mem_set hf with e | e
    · exact h.flw f e
    · rw [e]; exact hx⟩
theorem Mild.hap {c : CnD} {m : Int} (h : Mild c m) (id ev : Int) : Mild (hapD c id ev) m :=
  ⟨by show c.flows.length = (happenRaw c.reg id ev).1.es.length; rw [hap_len]; exact h.len, by show (happenRaw c.reg id ev).1.es.length ≤ 60; rw [hap_len]; exact h.sixty, h.get, h.flw⟩
theorem Mild.grant {c : CnD} {m n id : Int} (h : Mild c m) (hn : 0 ≤ n) : Mild (grantD c id n).1 (m + n) := by
  unfold grantD
  split
  · exact h.wide (by omega)
  · split
    · exact (h.wide (by omega)).setGet (by have := h.get; omega)
    · cases ha : atE c.reg.es id with
      | none => rw [atFl_none ha]; exact h.wide (by omega)
      | some k =>
        obtain ⟨hk, _, _⟩ := atE_some ha
        have hkf : k < c.flows.length := by have := h.len; omega
        rw [atFl_some ha, modify_is _ _ hkf]
        exact (h.wide (by omega)).setFlow k _ (by have := h.flw c.flows[k] (List.getElem_mem hkf); dsimp only; omega)
theorem Here.grant {w W : World} {g : Nat} {bs bx : List Nat} {f : Fr} {C : CnD} (h : Here w g bs f W C bx) (id n m : Int) (hm : Mild C m) (hm9 : m ≤ 1000000000) (h0 : 0 ≤ n) (h1 : n ≤ 16777215) (hid : id = 0 ∨ ∃ k, atE C.reg.es id = some k) :
    Calls Tryz.prog 109 #[.pointer (some ⟨g, 0, none⟩), .int .i64 id, .int .i64 n] W fun x W' => ∃ v, x = .returned v ∧ Here w g bs f W' (grantD C id n).1 bx ∧ W'.ownsRow w.heap.size 48 4 v (grantD C id n).2.length (fr (grantD C id n).2) ∧ (∀ q, v.ownBlock = some q → W.heap.size ≤ q ∧ q < W'.heap.size ∧ w.heap.size ≤ q ∧ q ∉ g :: bx) ∧ TurnB (g :: bx) W W' := by
  refine (grantM g C bx id n W h.c h0 h1 hid hm.len (by have := hm.sixty; omega) (by have := hm.get; omega) (fun x hx => by have := hm.flw x hx; omega)).mono ?_
  rintro x W' ⟨v, rfl, hc, ho, ht⟩
  have hlt := h.lt
  exact ⟨v, rfl, h.turn hc ht (NewB.refl _ _), owns_base ho (fun q hq => by have := (ho.lt q hq).1; omega), fun q hq => ⟨(ho.lt q hq).1, (ho.lt q hq).2, by have := (ho.lt q hq).1; omega, fun hx => by have := h.c.lts q hx; have := (ho.lt q hq).1; omega⟩, ht⟩
theorem Here.break {w W : World} {g : Nat} {bs bx : List Nat} {f : Fr} {C : CnD} (h : Here w g bs f W C bx) (id code m : Int) (hm : Mild C m) (h0 : 0 ≤ code) (h1 : code ≤ 100) :
    Calls Tryz.prog 103 #[.pointer (some ⟨g, 0, none⟩), .int .i64 id, .int .i64 code] W fun x W' => ∃ bz, x = .returned (frv (breakD C id code).2) ∧ Here w g bs f W' (breakD C id code).1 bz ∧ TurnB (g :: bx) W W' ∧ NewB W bx bz := by
  refine (breakM g C bx id code W h.c h0 h1 hm.len (by have := hm.sixty; omega)).mono ?_
  rintro x W' ⟨bz, rfl, hc, ht, hn⟩
  exact ⟨bz, rfl, h.turn hc ht hn, ht, hn⟩
theorem Here.hap {w W : World} {g : Nat} {bs bx : List Nat} {f : Fr} {C : CnD} (h : Here w g bs f W C bx) (id ev : Int) :
    Calls Tryz.prog 63 #[.pointer (some ⟨g, 0, none⟩), .int .i64 id, .int .i64 ev] W fun x W' => ∃ bz, x = .returned (.bool (happenRaw C.reg id ev).2) ∧ Here w g bs f W' (hapD C id ev) bz := by
  refine (hapM g C bx id ev W h.c).mono ?_
  rintro x W' ⟨bz, rfl, hc, ht, hn⟩
  exact ⟨bz, rfl, h.turn hc ht hn⟩
end Go.Proofs.YtllaeakeaabiaaaGreat
/- Connections in plain words: what is replied. -/
namespace Go.Proofs.YtllaeakeaabiaaaGreat
open Go.RowKit
set_option maxRecDepth 100000
set_option linter.unusedSimpArgs false
set_option linter.unusedVariables false
theorem status_ok {code : Int} (h : inB code 100 999 = true) : okF (statusF code) = true := by
  have hb := inB_true h
  have hl := decL_short 3 code.toNat (by omega) (by decide)
  unfold okF statusF
  dsimp only
  rw [strOf_size]
  have e1 : inB (((⟨#[58, 115, 116, 97, 116, 117, 115]⟩ : ByteArray).size : Nat) : Int) 1 40 = true := by decide
  rw [e1, decide_eq_true (by omega)]
  rfl
theorem out_ok {c : CnD} {M : List Fd} (h : okCn c = true) (hM : okT c.outr M = true) : okCn { c with outT := M } = true := by
  have h' := okCn_iff.1 h
  exact okCn_iff.2 ⟨h'.1, h'.2.1, hM, h'.2.2.2⟩
theorem endDn_ok {f : FlD} {e : EntryD} (h : okFl f e = true) : okFl (endDn f) e = true := by
  rw [okFl_iff] at h ⊢
  refine ⟨h.1, h.2.1, h.2.2.1, h.2.2.2.1, ?_⟩
  obtain ⟨h1, h2, h3, h4⟩ := okTu_true h.2.2.2.2
  have p := okPp_true h2
  exact okTu_of h1 (okPp_of p.1 p.2.1 p.2.2.1 p.2.2.2) h3 h4
/-- FnReplies, of what is replied, in plain words. -/
theorem replied_law {c : CnD} {id code : Int} (h : okCn c = true) : okCn (repliedRaw c id code).1 = true ∧ (repliedRaw c id code = (c, []) ∨ (inB code 100 999 = true ∧ ∃ fl body, (repliedRaw c id code).2 = [⟨2, fl, id, body⟩] ∧
    decodedD c.outr c.outT body = ([statusF code], ((repliedRaw c id code).1.outr, (repliedRaw c id code).1.outT), true) ∧ decide (code = 200) = msV (stateD (repliedRaw c id code).1.reg id))) := by
  cases hq : atE c.reg.es id with
  | none => rw [replied_none hq]; exact ⟨h, Or.inl rfl⟩
  | some k =>
    obtain ⟨hk, hke, hid, hfe, _, _⟩ := at_flow h hq
    rw [replied_some hq hk hke]
    unfold repliedAt
    by_cases hc : c.dead = true ∨ msV c.reg.es[k].state = false ∨ inB code 100 999 = false
    · rw [if_pos hc]; exact ⟨h, Or.inl rfl⟩
    rw [if_neg hc]
    have hcode : inB code 100 999 = true := by cases e : inB code 100 999 <;> simp_all
    have hms : msV c.reg.es[k].state = true := by cases e : msV c.reg.es[k].state <;> simp_all
    have h' := okCn_iff.1 h
    have hall : ∀ f ∈ [statusF code], okF f = true := fun f hf => by simp at hf; rw [hf]; exact status_ok hcode
    have hfs : okFs [statusF code] = true := by unfold okFs; simp [status_ok hcode]
    have hM := encL_ok [statusF code] h'.2.2.1 hall
    have hdec := law_dec h'.2.2.1 hfs
    have henc : encodedD c.outr c.outT [statusF code] = ((encL c.outr c.outT [statusF code]).1, (c.outr, (encL c.outr c.outT [statusF code]).2), true) := by
      unfold encodedD; rw [if_pos h'.2.2.1, if_pos hfs]
    rw [henc] at hdec
    dsimp only at hdec
    have hc1 := out_ok h hM
    by_cases h200 : code = 200
    · rw [if_pos h200]
      refine ⟨hc1, Or.inr ⟨hcode, 0, _, rfl, hdec, ?_⟩⟩
      rw [decide_eq_true h200]
      show true = msV (stateD c.reg id)
      rw [stateD_some hq hke, hms]
    · rw [if_neg h200]
      have hc2 := hap_ok id 3 hc1
      have h2 := okCn_iff.1 hc2
      refine ⟨okCn_iff.2 ⟨h2.1, h2.2.1, h2.2.2.1, h2.2.2.2.1, h2.2.2.2.2.1, h2.2.2.2.2.2.1, ?_⟩, Or.inr ⟨hcode, 1, _, rfl, hdec, ?_⟩⟩
      · refine okFls_ids ?_ (hap_ids c.reg id 3).symm
        exact okFls_set h'.2.2.2.2.2.2 fun _ e he => endDn_ok he
      · rw [decide_eq_false h200]
        show false = msV (stateD (happenRaw c.reg id 3).1 id)
        have hes : (happenRaw c.reg id 3).1.es = c.reg.es.set k ⟨c.reg.es[k].id, (nxV c.reg.es[k].state 3).1⟩ := by rw [← hid]; exact hap_at h'.1 hke 3
        have hk2 : k < (happenRaw c.reg id 3).1.es.length := by rw [hes, List.length_set]; exact hke
        have hget : (happenRaw c.reg id 3).1.es[k] = ⟨c.reg.es[k].id, (nxV c.reg.es[k].state 3).1⟩ := by simp only [hes]; simp
        have hat := at_k (happen_ok (id := id) (ev := 3) h'.1).1 hk2
        rw [hget] at hat
        dsimp only at hat
        rw [hid] at hat
        rw [stateD_some hat hk2, hget]
        dsimp only
        have hst : c.reg.es[k].state = 1 ∨ c.reg.es[k].state = 2 := of_decide_eq_true hms
        rcases hst with e | e <;> rw [e] <;> decide
end Go.Proofs.YtllaeakeaabiaaaGreat
/- The program's link in a block: its Flows in a row of their own, each with another Give. -/
namespace Go.Proofs.YtllaeakeaabiaaaGreat
open Go.RowKit
set_option maxRecDepth 100000
set_option linter.unusedSimpArgs false
set_option linter.unusedVariables false
abbrev Ft := List Value × FlD × List Nat
def updG (m : FlD → Int) (t : Ft) : Ft := (t.1.set 2 (.int .i64 (m t.2.1)), { t.2.1 with give := m t.2.1 }, t.2.2)
/-- The first k moved. -/
def updTo (m : FlD → Int) (ts : List Ft) (k : Nat) : List Ft := (ts.take k).map (updG m) ++ ts.drop k
theorem updTo_zero (m : FlD → Int) (ts : List Ft) : updTo m ts 0 = ts := by simp [updTo]
theorem updTo_all (m : FlD → Int) (ts : List Ft) (k : Nat) (h : ts.length ≤ k) : updTo m ts k = ts.map (updG m) := by unfold updTo; rw [List.take_of_length_le h, List.drop_eq_nil_of_le h, List.append_nil]
theorem flat_upd (m : FlD → Int) (ts : List Ft) (k : Nat) (h : k < ts.length) (hlen : ∀ t ∈ ts, t.1.length = 15) :
    ((updTo m ts k).flatMap (fun t : Ft => t.1)).set (k * 15 + 2) (.int .i64 (m ts[k].2.1)) = (updTo m ts (k + 1)).flatMap (fun t : Ft => t.1) := by
  have e1 : (((ts.take k).map (updG m)).flatMap (fun t : Ft => t.1)).length = k * 15 := by
    rw [flat_len (fun t : Ft => t.1) 15 _ (fun t ht => ?_), List.length_map, List.length_take, Nat.min_eq_left (by omega)]
    obtain ⟨s, hs, rfl⟩ := List.mem_map.1 ht
    simpa [updG] using hlen s (List.mem_of_mem_take hs)
  have hk : ts[k].1.length = 15 := hlen _ (List.getElem_mem h)
  unfold updTo
  rw [List.take_succ_eq_append_getElem h, List.map_append, List.drop_eq_getElem_cons h]
  simp only [List.flatMap_append, List.flatMap_cons, List.map_cons, List.map_nil, List.flatMap_nil, List.append_nil]
  rw [List.set_append_right _ _ (by omega), List.set_append_left _ _ (by omega), e1, Nat.add_sub_cancel_left, List.append_assoc]
  rfl
theorem flat_upd_at (m : FlD → Int) (ts : List Ft) (k : Nat) (h : k < ts.length) (hlen : ∀ t ∈ ts, t.1.length = 15) {j : Nat} {u : Value} (hu : ts[k].1[j]? = some u) : ((updTo m ts k).flatMap (fun t : Ft => t.1))[k * 15 + j]? = some u := by
  have hk : ts[k].1.length = 15 := hlen _ (List.getElem_mem h)
  have hj : j < 15 := by have := (List.getElem?_eq_some_iff.1 hu).1; omega
  have e1 : (((ts.take k).map (updG m)).flatMap (fun t : Ft => t.1)).length = k * 15 := by
    rw [flat_len (fun t : Ft => t.1) 15 _ (fun t ht => ?_), List.length_map, List.length_take, Nat.min_eq_left (by omega)]
    obtain ⟨s, hs, rfl⟩ := List.mem_map.1 ht
    simpa [updG] using hlen s (List.mem_of_mem_take hs)
  unfold updTo
  rw [List.drop_eq_getElem_cons h]
  simp only [List.flatMap_append, List.flatMap_cons]
  rw [List.getElem?_append_right (by omega), e1, Nat.add_sub_cancel_left, List.getElem?_append_left (by omega)]
  exact hu
section
variable {w w' W W' : World} {lo g : Nat} {d d' : CnD} {L L' : List Fr} {bs bx by_ vb : List Nat}
theorem LkM.cut (h : LkM w lo g d L bs) :
    ∃ (ve vi vo : Value) (a : Option Addr) (p : Nat) (tv : Value) (ts : List Ft), RowIs w g 69 (lkcs d ve vi vo (.slice a d.flows.length p) tv) ∧ d.flows = ts.map (fun t : Ft => t.2.1) ∧ Reads w (.slice a d.flows.length p) d.flows.length 15 (ts.flatMap (fun t : Ft => t.1)) ∧ (∀ t ∈ ts, ∃ a c, t.1 = flcs t.2.1 (.slice a t.2.1.fds.length c)) ∧ (∀ u ∈ ts.flatMap (fun t : Ft => t.1), u.oneCell' = true) ∧
      ∀ (m : FlD → Int) (n : Int) (w' : World) (v' : Value), Below w.heap.size w w' → w'.ownsRow w.heap.size 89 15 v' d.flows.length ((ts.map (updG m)).flatMap (fun t : Ft => t.1)) →
        ∃ bx, Lnk lo g w bs ((w'.setCell ⟨g, 10, none⟩ v').setCell ⟨g, 9, none⟩ (.int .i64 n)) { d with flows := d.flows.map (fun f => { f with give := m f }), first := n } L bx := by
  obtain ⟨⟨ve, vi, vo, vf, tv, cb, hrow, ⟨⟨be, bi, bo, bf, h1, h2, h3, h4, rfl⟩, hn⟩, h5, h6, h7⟩, hl, hlo, hng, hbs⟩ := h
  obtain ⟨a, p, hvf, _, _⟩ := h4.rd.form
  subst hvf
  obtain ⟨ts, hL, ho, hE, rfl⟩ := h4
  have hlen : d.flows.length = ts.length := by rw [hL]; simp
  refine ⟨ve, vi, vo, a, p, tv, ts, hrow, hL, ?_, fun t ht => ?_, fun u hu => ?_, fun m n w' v' hb ho' => ?_⟩
  · have := reads_of_owns ho
    rw [← hlen] at this
    exact this
  · obtain ⟨v0, b0, e, _, _, g1, _⟩ := hE t ht
    obtain ⟨a0, c0, rfl, _, _⟩ := g1.rd.form
    exact ⟨a0, c0, e⟩
  · obtain ⟨t, ht, hu⟩ := List.mem_flatMap.1 hu
    exact flowS.rd_one (flowS.own_rd (hE t ht)) u hu
  have hcl : ∀ x ∈ be ++ bi ++ bo ++ ((Value.slice a d.flows.length p).ownBlock.toList ++ ts.flatMap (fun t : Ft => t.2.2)), x < w.heap.size := fun x hx => hl x (by simp only [List.mem_cons]; exact .inr (h6 x hx))
  have hgl : g < w.heap.size := hl g (by simp)
  have hws := hb.size
  have hv' : ∀ q, v'.ownBlock = some q → w.heap.size ≤ q ∧ q < w'.heap.size := fun q hq => owns_lt ho' q hq
  have hgv : ∀ q, v'.ownBlock = some q → q ≠ g := fun q hq e => by have := (hv' q hq).1; omega
  have hk2 : ∀ x, x ≠ g → ((w'.setCell ⟨g, 10, none⟩ v').setCell ⟨g, 9, none⟩ (.int .i64 n)).heap[x]? = w'.heap[x]? := fun x hx => by rw [Below.heap_setCell _ _ _ x (show x ≠ g from hx), Below.heap_setCell _ _ _ x (show x ≠ g from hx)]
  have hk3 : ∀ x, x < w.heap.size → x ≠ g → ((w'.setCell ⟨g, 10, none⟩ v').setCell ⟨g, 9, none⟩ (.int .i64 n)).heap[x]? = w.heap[x]? := fun x hx hx2 => (hk2 x hx2).trans (hb.block x hx)
  have hgs : ((w'.setCell ⟨g, 10, none⟩ v').setCell ⟨g, 9, none⟩ (.int .i64 n)).heap.size = w'.heap.size := by simp
  have hgc : ∀ x ∈ be ++ bi ++ bo ++ ((Value.slice a d.flows.length p).ownBlock.toList ++ ts.flatMap (fun t : Ft => t.2.2)), x ≠ g := fun x hx e => hng (e ▸ h6 x hx)
  have hs : w.heap.size ≤ ((w'.setCell ⟨g, 10, none⟩ v').setCell ⟨g, 9, none⟩ (.int .i64 n)).heap.size := by rw [hgs]; omega
  have kp : ∀ x ∈ be ++ bi ++ bo ++ ((Value.slice a d.flows.length p).ownBlock.toList ++ ts.flatMap (fun t : Ft => t.2.2)), ((w'.setCell ⟨g, 10, none⟩ v').setCell ⟨g, 9, none⟩ (.int .i64 n)).heap[x]? = w.heap[x]? := fun x hx => hk3 x (hcl x hx) (hgc x hx)
  have hrow1 : RowIs w' g 69 (lkcs d ve vi vo (.slice a d.flows.length p) tv) := hrow.new hb
  have hmem : ∀ q ∈ v'.ownBlock.toList, v'.ownBlock = some q := fun q hq => by cases hv : v'.ownBlock <;> simp [hv] at hq ⊢; exact hq.symm
  refine ⟨bs ++ v'.ownBlock.toList, ⟨⟨ve, vi, vo, v', tv, be ++ bi ++ bo ++ (v'.ownBlock.toList ++ ts.flatMap (fun t : Ft => t.2.2)), (hrow1.set 10 v').set 9 _, ⟨⟨be, bi, bo, v'.ownBlock.toList ++ ts.flatMap (fun t : Ft => t.2.2), h1.keep hs (fun b hb => kp b (by simp [hb])), h2.keep hs (fun b hb => kp b (by simp [hb])), h3.keep hs (fun b hb => kp b (by simp [hb])), ?_, rfl⟩, ?_⟩, ?_, ?_, ?_⟩, ?_, ?_, ?_, ?_⟩, ?_, ?_⟩
  · refine ⟨ts.map (updG m), ?_, ?_, ?_, ?_⟩
    · show d.flows.map _ = _
      rw [hL]; simp [updG]
    · have hlo2 := owns_kept (base := w.heap.size) ho' (w' := (w'.setCell ⟨g, 10, none⟩ v').setCell ⟨g, 9, none⟩ (.int .i64 n)) (fun q hq _ => hk2 q (hgv q hq))
      have := owns_base (base' := 0) hlo2 (fun _ _ => Nat.zero_le _)
      rw [hlen] at this
      rw [List.length_map]
      exact this
    · intro t ht
      obtain ⟨s, hs1, rfl⟩ := List.mem_map.1 ht
      obtain ⟨v0, b0, e, f0, f1, g1, e2⟩ := hE s hs1
      refine ⟨v0, b0, ?_, f0, f1, g1.keep hs (fun b hb => kp b ?_), e2⟩
      · show s.1.set 2 _ = _
        rw [e]; rfl
      · have : b ∈ ts.flatMap (fun t : Ft => t.2.2) := List.mem_flatMap.2 ⟨s, hs1, by rw [e2]; exact hb⟩
        simp only [List.mem_append]
        exact .inr (.inr this)
    · have : (ts.map (updG m)).flatMap (fun t : Ft => t.2.2) = ts.flatMap (fun t : Ft => t.2.2) := by rw [List.flatMap_map]; rfl
      rw [this]
  · have hn1 : (be ++ bi ++ bo).Nodup := nodup_left hn
    have hn2 : (ts.flatMap (fun t : Ft => t.2.2)).Nodup := nodup_right (nodup_right hn)
    refine nodup_mk hn1 (nodup_mk (opt_nodup _) hn2 fun x hx hx2 => ?_) fun x hx hx2 => ?_
    · have := (hv' x (hmem x hx)).1
      have := hcl x (by simp only [List.mem_append]; exact .inr (.inr hx2))
      omega
    · rcases List.mem_append.1 hx2 with e | e
      · have := (hv' x (hmem x e)).1
        have := hcl x (List.mem_append_left _ hx)
        omega
      · exact nodup_apart hn x hx (List.mem_append_right _ e)
  · exact owns_kept h5 (fun q hq hq2 => hk3 q hq2 (fun e => hng (e ▸ (h7 q hq).1)))
  · intro x hx
    rcases List.mem_append.1 hx with e | e
    · exact List.mem_append_left _ (h6 x (List.mem_append_left _ e))
    · rcases List.mem_append.1 e with e | e
      · exact List.mem_append_right _ e
      · exact List.mem_append_left _ (h6 x (List.mem_append_right _ (List.mem_append_right _ e)))
  · intro q hq
    refine ⟨List.mem_append_left _ (h7 q hq).1, fun hx => ?_⟩
    rcases List.mem_append.1 hx with e | e
    · exact (h7 q hq).2 (List.mem_append_left _ e)
    · rcases List.mem_append.1 e with e | e
      · have := (hv' q (hmem q e)).1
        have := hl q (by simp [(h7 q hq).1]); omega
      · exact (h7 q hq).2 (List.mem_append_right _ (List.mem_append_right _ e))
  · intro x hx
    rw [hgs]
    rcases List.mem_cons.1 hx with e | e
    · omega
    · rcases List.mem_append.1 e with e | e
      · have := hl x (by simp [e]); omega
      · exact (hv' x (hmem x e)).2
  · intro x hx
    rcases List.mem_append.1 hx with e | e
    · exact hlo x e
    · have := (hv' x (hmem x e)).1; omega
  · intro hx
    rcases List.mem_append.1 hx with e | e
    · exact hng e
    · exact hgv g (hmem g e) rfl
  · omega
  · exact ⟨hb.os, hb.tape, hb.output, hs, fun k hk hk2' => hk3 k hk (fun e => hk2' (by simp [e]))⟩
  · intro x hx
    rcases List.mem_append.1 hx with e | e
    · exact .inl e
    · exact .inr (hv' x (hmem x e)).1
end
end Go.Proofs.YtllaeakeaabiaaaGreat
/- The program's link: what is told; what happens to a stream; where a stream's Flow stands. -/
namespace Go.Proofs.YtllaeakeaabiaaaGreat
open Go.RowKit
set_option maxRecDepth 100000
set_option linter.unusedSimpArgs false
set_option linter.unusedVariables false
set_option maxHeartbeats 2000000 in
theorem implTell (lo g : Nat) (d : CnD) (L : List Fr) (bs : List Nat) (k fl st : Int) (b : ByteArray) (w : World) (h : LkM w lo g d L bs) (hL : L.length ≤ 1000000) :
    Calls Tryz.prog 91 #[.pointer (some ⟨g, 0, none⟩), .int .i64 k, .int .i64 fl, .int .i64 st, .string b] w fun x w' => x = .returned (.tuple #[]) ∧ ∃ bx, Lnk lo g w bs w' d (L ++ [⟨k, fl, st, b⟩]) bx := by
  have hbX : Below w.heap.size w (w.alloc (.cells #[.int .i64 k, .int .i64 fl, .int .i64 st, .string b] 48)) := (Below.refl _ _).alloc (Nat.le_refl _) _
  have hRd : Reads (w.alloc (.cells #[.int .i64 k, .int .i64 fl, .int .i64 st, .string b] 48)) (.slice (some ⟨w.heap.size, 0, none⟩) 1 1) 1 4 (fr [⟨k, fl, st, b⟩]) := reads_of_owns (owns_lit w 48 4 1 #[.int .i64 k, .int .i64 fl, .int .i64 st, .string b] rfl (by omega))
  have h2 := h.new hbX
  have hgl := h.glt
  have hlo := h2.base
  obtain ⟨ve, vi, vo, vf, tv, hrow, ho, hng, hput⟩ := h2.told
  obtain ⟨ta, tp, rfl, tn, tm⟩ := owns_form ho
  have x13 : w.cell? ⟨g, 13, none⟩ = some (.slice ta L.length tp) := (hbX.cell (p := ⟨g, 13, none⟩) hgl).symm.trans (RowIs.cell (j := 13) hrow rfl)
  have HP := hide hput
  have HROW := hide hrow
  have HB0 := hide hbX
  clear hput hrow h h2 hbX
  go_enter Tryz.func91, Tryz.ntmps91
  go_wp2_with (at_builtin; go_must (refine wpList_app _ (by rfl) _ _ 44 (by rfl) 48 (.agg #[.int .i64 0, .int .i64 0, .int .i64 0, .string ⟨#[]⟩]) 4 40 Tryz.underlying44 (by kernel_rfl) rfl (by decide) lo _ L.length (fr L) (by rfl) ho _ 1 (fr [⟨k, fl, st, b⟩]) (by rfl) hRd (fr_one _) (by omega) (by decide) hlo ?_))
  intro ad7 cap7 w7 hown7 hg7 hat7
  obtain ⟨bx, HF⟩ := HP.out w7 _ ⟨k, fl, st, b⟩ _ hown7 rfl hg7 (hat7.imp id (fun h => by rw [h]; simp))
  have HR7 := HROW.out.kept (hg7.block g HROW.out.lt (fun e => hng g e.symm rfl))
  have HG7 := hide (Lnk.after HB0.out HF)
  clear HF hown7 hg7 hat7 HP HROW HB0 hRd ho hng
  have x13 := RowIs.cell (j := 13) HR7 rfl
  have xf := RowIs.frozen HR7 13
  have xl := HR7.lt
  go_wp2_with fail
  first | go_end0 | refine bodyPost_ret (results_none rfl _ _ _) rfl ?_
  exact ⟨rfl, _, HG7.out⟩
theorem implState (lo g : Nat) (d : CnD) (L : List Fr) (bs : List Nat) (id : Int) (w : World) (h : LkM w lo g d L bs) (hs : okRg d.reg = true) :
    Calls Tryz.prog 143 #[.pointer (some ⟨g, 0, none⟩), .int .i64 id] w fun x w' => x = .returned (.int .i64 (stateD d.reg id)) ∧ Below w.heap.size w w' := by
  obtain ⟨⟨ve, vi, vo, vf, tv, cb, hrow, hc, h3, h4, h5⟩, hl, hlo, hng, hbs⟩ := h
  obtain ⟨ad, cap, rfl, _, _⟩ := hc.rd.e.form
  have hst : stateP d.reg id = stateD d.reg id := by unfold stateP; rw [if_pos hs]
  have HE := hide hc.rd.e
  have x0 := RowIs.cell (j := 0) hrow rfl
  have x1 := RowIs.cell (j := 1) hrow rfl
  have x2 := RowIs.cell (j := 2) hrow rfl
  clear hrow hc h3 h4 h5 hl hlo hng hbs
  go_enter Tryz.func143, Tryz.ntmps143
  go_wp2_with fail
  refine (implStateOf d.reg _ id _ HE.out).mono ?_; rw [hst]; rintro x w1 ⟨rfl, hb⟩
  go_wp2_with fail
  go_ret
  exact ⟨rfl, hb⟩
theorem implMaySendL (lo g : Nat) (d : CnD) (L : List Fr) (bs : List Nat) (id : Int) (w : World) (h : LkM w lo g d L bs) (hs : okRg d.reg = true) :
    Calls Tryz.prog 87 #[.pointer (some ⟨g, 0, none⟩), .int .i64 id] w fun x w' => x = .returned (.bool (msV (stateD d.reg id))) ∧ Below w.heap.size w w' := by
  go_enter Tryz.func87, Tryz.ntmps87
  go_wp2_with fail
  refine (implState lo g d L bs id _ h hs).mono ?_; rintro x w1 ⟨rfl, hb⟩
  go_wp2_with fail
  refine (implMaySend _ _).mono ?_; rintro x w2 ⟨rfl, hb2⟩
  go_wp2_with fail
  go_ret
  exact ⟨rfl, bchain hb hb2⟩
set_option maxHeartbeats 1000000 in
theorem implHappen (lo g : Nat) (d : CnD) (L : List Fr) (bs : List Nat) (id ev : Int) (w : World) (h : LkM w lo g d L bs) (hs : okRg d.reg = true) :
    Calls Tryz.prog 92 #[.pointer (some ⟨g, 0, none⟩), .int .i64 id, .int .i64 ev] w fun x w' => x = .returned (.tuple #[]) ∧ ∃ bx, Lnk lo g w bs w' (hapD d id ev) L bx := by
  have HH := hide h
  obtain ⟨⟨ve, vi, vo, vf, tv, cb, hrow, hc, h3, h4, h5⟩, hl, hlo, hng, hbs⟩ := h
  obtain ⟨ad, cap, rfl, _, _⟩ := hc.rd.e.form
  have hst : happenedD d.reg id ev = happenRaw d.reg id ev := by unfold happenedD; rw [if_pos hs]
  have HE := hide hc.rd.e
  have x0 := RowIs.cell (j := 0) hrow rfl
  have x1 := RowIs.cell (j := 1) hrow rfl
  have x2 := RowIs.cell (j := 2) hrow rfl
  have HROW := hide hrow
  clear hrow hc h3 h4 h5 hl hlo hng hbs
  go_enter Tryz.func92, Tryz.ntmps92
  go_wp2_with fail
  refine (implHappened d.reg _ id ev _ HE.out).mono ?_; rw [hst]; rintro x w1 ⟨v', rfl, ho, hb⟩
  obtain ⟨ae, pe, rfl, _, _⟩ := ho.form
  obtain ⟨bx, HL⟩ := HH.out.setReg hb _ _ ho
  have HL2 := hide HL
  have hr1 := HROW.out.new hb
  have y0 := RowIs.cell (j := 0) hr1 rfl
  have y1 := RowIs.cell (j := 1) hr1 rfl
  have y2 := RowIs.cell (j := 2) hr1 rfl
  have yf := fun j => RowIs.frozen hr1 j
  have yl := hr1.lt
  clear HL ho hb hr1 x0 x1 x2 HROW HE HH hst
  go_wp2_with fail
  first | go_end0 | refine bodyPost_ret (results_none rfl _ _ _) rfl ?_
  exact ⟨rfl, bx, HL2.out⟩
theorem implFlowSome (lo g : Nat) (d : CnD) (L : List Fr) (bs : List Nat) (id : Int) (k gf cap : Nat) (w : World) (h : LkM w lo g d L bs) (hlen : d.flows.length = d.reg.es.length) (h60 : d.reg.es.length ≤ 60) (ha : atE d.reg.es id = some k) (hx : w.cell? ⟨g, 10, none⟩ = some (.slice (some ⟨gf, 0, none⟩) d.flows.length cap)) :
    Calls Tryz.prog 170 #[.pointer (some ⟨g, 0, none⟩), .int .i64 id] w fun x w' => x = .returned (.pointer (some ⟨gf, k * 15, none⟩)) ∧ Below w.heap.size w w' := by
  obtain ⟨⟨ve, vi, vo, vf, tv, cb, hrow, hc, h3, h4, h5⟩, hl, hlo, hng, hbs⟩ := h
  obtain ⟨ad, cp, rfl, _, _⟩ := hc.rd.e.form
  have HE := hide hc.rd.e
  have x0 := RowIs.cell (j := 0) hrow rfl
  have x1 := RowIs.cell (j := 1) hrow rfl
  have x2 := RowIs.cell (j := 2) hrow rfl
  have hgl := hrow.lt
  obtain ⟨hk, _, _⟩ := atE_some ha
  have hi : atI d.reg.es id = k := by unfold atI; rw [ha]
  clear hrow hc h3 h4 h5 hl hlo hng hbs
  go_enter Tryz.func170, Tryz.ntmps170
  go_wp2_with fail
  refine (implPlace d.reg id _ _ HE.out h60).mono ?_; rw [hi]; rintro x w1 ⟨rfl, hb⟩
  have y10 := (hb.cell (p := ⟨g, 10, none⟩) hgl).trans hx
  have hkI : (k : Int) < d.flows.length := by omega
  have hk0 : ¬ (k : Int) < 0 := by omega
  clear x0 x1 x2 hx hi ha hlen h60 HE
  go_wp2_with fail
  go_ret
  exact ⟨rfl, hb⟩
theorem implFlowNone (lo g : Nat) (d : CnD) (L : List Fr) (bs : List Nat) (id : Int) (w : World) (h : LkM w lo g d L bs) (h60 : d.reg.es.length ≤ 60) (ha : atE d.reg.es id = none) :
    Calls Tryz.prog 170 #[.pointer (some ⟨g, 0, none⟩), .int .i64 id] w fun x w' => x = .returned (.pointer none) ∧ Below w.heap.size w w' := by
  obtain ⟨⟨ve, vi, vo, vf, tv, cb, hrow, hc, h3, h4, h5⟩, hl, hlo, hng, hbs⟩ := h
  obtain ⟨ad, cp, rfl, _, _⟩ := hc.rd.e.form
  have HE := hide hc.rd.e
  have x0 := RowIs.cell (j := 0) hrow rfl
  have x1 := RowIs.cell (j := 1) hrow rfl
  have x2 := RowIs.cell (j := 2) hrow rfl
  have hi : atI d.reg.es id = -1 := by unfold atI; rw [ha]
  clear hrow hc h3 h4 h5 hl hlo hng hbs
  go_enter Tryz.func170, Tryz.ntmps170
  go_wp2_with fail
  refine (implPlace d.reg id _ _ HE.out h60).mono ?_; rw [hi]; rintro x w1 ⟨rfl, hb⟩
  clear x0 x1 x2 hi ha h60 HE
  go_wp2_with fail
  go_ret
  exact ⟨rfl, hb⟩
theorem torn_ok {t : TuD} (h : okTu t = true) : trnTu t = tornT t := by unfold trnTu; rw [if_neg (by rw [h]; decide)]; rfl
set_option maxHeartbeats 1000000 in
theorem implTear (f : FlD) (v0 : Value) (gf o : Nat) (A C : List Value) (w : World) (hm : MidIs w gf 89 A C o (flcs f v0)) (hok : okTu f.tun = true) (h1 : f.tun.up.b.size ≤ maxLen) (h2 : f.tun.dn.b.size ≤ maxLen) :
    Calls Tryz.prog 131 #[.pointer (some ⟨gf, o, none⟩)] w fun x w' => x = .returned (.tuple #[]) ∧ MidIs w' gf 89 A C o (flcs (tornF f) v0) ∧ TurnB [gf] w w' := by
  have hoff := hm.off
  have hp : MidIs w gf 89 (A ++ [.int .i64 f.id, .int .i64 f.get, .int .i64 f.give, v0]) ([.bool f.ended] ++ C) (o + 4) (tucs f.tun) := MidIs.part (p := [.int .i64 f.id, .int .i64 f.get, .int .i64 f.give, v0]) (m := tucs f.tun) (q := [.bool f.ended]) hm
  have HP := hide hp
  clear hm hp
  go_enter Tryz.func131, Tryz.ntmps131
  go_wp2_with (refine wpList_load_mid (by rfl) 87 _ (by rfl) gf (o + 4) (by rfl) (tucs f.tun) _ (fun j u hu => HP.out.cell hu) Tryz.underlying87 rfl (by kernel_rfl) ?_)
  refine (implTorn f.tun _ h1 h2).mono ?_; rw [torn_ok hok]; rintro x w1 ⟨rfl, hb⟩
  replace HP := hide (HP.out.new hb)
  have HB := hide hb
  clear hb
  go_wp2_with (refine wpList_store_mid (by rfl) 87 _ _ (by rfl) gf (o + 4) (tucs (tornT f.tun)) (by rfl) (by rfl) 89 _ _ _ HP.out (by kernel_rfl) rfl (by intro u hu; simp at hu; rcases hu with rfl | rfl | rfl | rfl | rfl | rfl | rfl | rfl | rfl | rfl <;> rfl) ?_)
  intro w2 hm2 ht2
  go_wp2_with fail
  first | go_end0 | refine bodyPost_ret (results_none rfl _ _ _) rfl ?_
  exact ⟨rfl, MidIs.whole (p := [.int .i64 f.id, .int .i64 f.get, .int .i64 f.give, v0]) (m := tucs (tornT f.tun)) (q := [.bool f.ended]) hm2 hoff, (TurnB.new HB.out).trans ht2⟩
set_option maxHeartbeats 1000000 in
theorem implReset (lo g : Nat) (d : CnD) (L : List Fr) (bs : List Nat) (id ev : Int) (w : World) (h : LkM w lo g d L bs) (hs : okRg d.reg = true) (hok : okCn (hapD d id ev) = true) :
    Calls Tryz.prog 129 #[.pointer (some ⟨g, 0, none⟩), .int .i64 id, .int .i64 ev] w fun x w' => x = .returned (.tuple #[]) ∧ ∃ bx, Lnk lo g w bs w' (atFl (hapD d id ev) id tornF) L bx := by
  obtain ⟨D, hD⟩ : ∃ D, hapD d id ev = D := ⟨_, rfl⟩
  rw [hD] at hok ⊢
  have HD := hide hD
  clear hD
  have hlen := (cn_len hok).1
  have h60 := (cn_len hok).2
  have HF : Hid (∀ f ∈ D.flows, okTu f.tun = true) := fun f hf => (cn_flow hok hf).2.2.1
  clear hok
  go_enter Tryz.func129, Tryz.ntmps129
  go_wp2_with fail
  refine (implHappen lo g d L bs id ev _ h hs).mono ?_; rintro x w1 ⟨rfl, bx, hl⟩
  rw [HD.out] at hl
  have HL := hide hl
  clear hl h HD
  cases ha : atE D.reg.es id with
  | none =>
    have hm := HL.out.m
    go_wp2_with fail
    refine (implFlowNone lo g D L bx id _ hm h60 ha).mono ?_; rintro x w2 ⟨rfl, hb2⟩
    replace HL := hide (HL.out.new hb2)
    clear hm hb2
    go_wp2_with fail
    first | go_end0 | refine bodyPost_ret (results_none rfl _ _ _) rfl ?_
    rw [atFl_none ha]
    exact ⟨rfl, bx, HL.out⟩
  | some k =>
    obtain ⟨hk, _, _⟩ := atE_some ha
    have hkf : k < D.flows.length := by omega
    obtain ⟨gf, A, C, ve, vi, vo, cap, v0, tv, hrow, hgb, hgl, hgg, hmid, f0, f1, hput⟩ := HL.out.m.flw k hkf
    have hm := HL.out.m
    have hx := RowIs.cell (j := 10) hrow rfl
    have HP := hide hput; have HM := hide hmid
    clear hrow hput hmid
    go_wp2_with fail
    refine (implFlowSome lo g D L bx id k gf cap _ hm hlen h60 ha hx).mono ?_; rintro x w2 ⟨rfl, hb2⟩
    have HB2 := hide hb2
    replace HM := hide (HM.out.new hb2)
    clear hb2 hm hx
    have hokf := HF.out _ (List.getElem_mem hkf)
    have HK := hide ha
    clear ha
    go_wp2_with fail
    refine (implTear D.flows[k] v0 gf (k * 15) A C _ HM.out hokf f0 f1).mono ?_; rintro x w3 ⟨rfl, hm3, ht3⟩
    have HS := hide (HP.out w3 (tornF D.flows[k]) rfl (by show (⟨#[]⟩ : ByteArray).size ≤ _; decide) (by show (⟨#[]⟩ : ByteArray).size ≤ _; decide) hm3 ((TurnB.new HB2.out).trans ht3))
    clear hm3 ht3 HM HP HB2
    go_wp2_with fail
    first | go_end0 | refine bodyPost_ret (results_none rfl _ _ _) rfl ?_
    rw [atFl_some HK.out, modify_is _ _ hkf]
    exact ⟨rfl, bx, HL.out.step HS.out⟩
end Go.Proofs.YtllaeakeaabiaaaGreat
