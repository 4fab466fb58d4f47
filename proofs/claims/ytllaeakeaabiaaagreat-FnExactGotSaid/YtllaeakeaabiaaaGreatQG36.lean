/- Several small texts of one level, one behind the other. -/
import Derived.Test.YtllaeakeaabiaaaGreatQG35
import Derived.Test.YtllaeakeaabiaaaGreatQG30
import Derived.Test.YtllaeakeaabiaaaGreatQG6
import Derived.Deep.DeepCutAuto
import Derived.Test.YtllaeakeaabiaaaGreatQG33
import Derived.Test.YtllaeakeaabiaaaGreatQG8
import Derived.Deep.DeepMust
import Derived.Test.YtllaeakeaabiaaaGreatQG34
import Derived.Test.YtllaeakeaabiaaaGreatQG2
/- Chapter 17's model in place: taken out of a stream, given back. -/
namespace Go.Proofs.YtllaeakeaabiaaaGreat
open Go.RowKit
set_option maxRecDepth 100000
set_option linter.unusedSimpArgs false
set_option linter.unusedVariables false
theorem took_some {c : CnD} {id n : Int} {k : Nat} (h : atE c.reg.es id = some k) (h1 : k < c.flows.length) (h2 : k < c.reg.es.length) (hd : c.dead = false) :
    tookRaw c id n = (let room := max 0 (16777215 - max c.get c.flows[k].get)
      let s := c.flows[k].tun.up.b.extract 0 (outN c.flows[k].tun (min n room))
      let c1 : CnD := { c with flows := c.flows.set k { c.flows[k] with tun := (outTu c.flows[k].tun (min n room)).1 } }
      let g1 := if c.reg.es[k].state = 4 then (c1, []) else grantD c1 id s.size
      ((grantD g1.1 0 s.size).1, g1.2 ++ (grantD g1.1 0 s.size).2, s)) ∨ okTu c.flows[k].tun = false := by
  cases hk : okTu c.flows[k].tun
  · exact .inr rfl
  refine .inl ?_
  have hov : ∀ m, outF m c.flows[k] = { c.flows[k] with tun := (outTu c.flows[k].tun m).1 } := fun m => by
    unfold outF outTu
    rw [if_neg (by rw [hk]; decide)]
  unfold tookRaw
  rw [h]
  simp only [List.getElem?_eq_getElem h1, List.getElem?_eq_getElem h2]
  rw [if_neg (by rw [hd]; decide), atFl_at h h1, hov]
end Go.Proofs.YtllaeakeaabiaaaGreat
/- Chapter 17's model in place: a reply. -/
namespace Go.Proofs.YtllaeakeaabiaaaGreat
open Go.RowKit
set_option maxRecDepth 100000
set_option linter.unusedSimpArgs false
set_option linter.unusedVariables false
theorem CnM.awayRow {W : World} {g gb : Nat} {C : CnD} {bx : List Nat} (h : CnM W g C bx) (cs : Array Value) (hn : gb ∉ g :: bx) : CnM (W.setRow gb cs) g C bx := by
  obtain ⟨⟨ve, vi, vo, vf, h1, h2⟩, h3⟩ := h
  exact ⟨⟨ve, vi, vo, vf, h1.kept (setRow_other _ _ _ _ (fun e => hn (by simp [e]))), h2.keep (by rw [setRow_size]; exact Nat.le_refl _) (fun b hb => setRow_other _ _ _ _ (fun e => hn (by rw [← e]; simp [hb])))⟩, h3⟩
theorem TurnB.freshRow {bs : List Nat} {a b : World} {gb : Nat} (h : TurnB bs a b) (cs : Array Value) (hg : a.heap.size ≤ gb) : TurnB bs a (b.setRow gb cs) :=
  ⟨h.os, h.tape, h.output, by rw [setRow_size]; exact h.size, fun k hk hn => by rw [setRow_other _ _ _ _ (by omega)]; exact h.block k hk hn⟩
theorem status_okF {code : Int} (h : inB code 100 999 = true) : okF (statusF code) = true := by
  have hb := inB_true h
  have hl := decL_short 3 code.toNat (by omega) (by decide)
  unfold okF statusF
  dsimp only
  rw [strOf_size]
  have e1 : inB (((⟨#[58, 115, 116, 97, 116, 117, 115]⟩ : ByteArray).size : Nat) : Int) 1 40 = true := by decide
  rw [e1, decide_eq_true (by omega)]
  rfl
theorem enc_fine {room : Int} {L l : List Fd} (h : okT room L = true) (hl : ∀ f ∈ l, okF f = true) : ∀ f ∈ (encL room L l).2, f.fine := by
  intro f hf
  have h1 := encL_ok l h hl
  unfold okT at h1
  simp only [Bool.and_eq_true, List.all_eq_true] at h1
  have h2 := okF_parts (h1.2.1 f hf)
  exact ⟨by omega, by omega⟩
theorem replied_no {d : CnD} {id code : Int} {k : Nat} (hat : atE d.reg.es id = some k) (h1 : k < d.flows.length) (h2 : k < d.reg.es.length) (h : d.dead = true ∨ msV d.reg.es[k].state = false ∨ inB code 100 999 = false) : repliedRaw d id code = (d, []) := by
  rw [replied_some hat h1 h2]; unfold repliedAt; rw [if_pos h]
end Go.Proofs.YtllaeakeaabiaaaGreat
/- Chapter 17's model in place: a frame of a head. -/
namespace Go.Proofs.YtllaeakeaabiaaaGreat
open Go.RowKit
set_option maxRecDepth 100000
set_option linter.unusedSimpArgs false
set_option linter.unusedVariables false
theorem Here.turn' {w W W' : World} {g : Nat} {bs bx by_ : List Nat} {f : Fr} {C C' : CnD} (h : Here w g bs f W C bx) (hc : CnM W' g C' by_) (ht : TurnB (g :: bx) W W') (hn : ∀ q ∈ by_, q ∈ bx ∨ w.heap.size < q) : Here w g bs f W' C' by_ :=
  ⟨hc, h.t.then h.n ht, fun q hq => by
    rcases hn q hq with e | e
    · exact h.n q e
    · exact .inr (by omega), h.r.kept (ht.block _ h.r.lt h.x), fun hx => by
    rcases List.mem_cons.1 hx with e | e
    · exact h.x (by simp [e])
    · rcases hn _ e with e | e
      · exact h.x (by simp [e])
      · omega⟩
/-- Another InTable, made by a call since. -/
theorem Here.setIn {w W : World} {g base : Nat} {bs bx : List Nat} {f : Fr} {C : CnD} (h : Here w g bs f W C bx) (r : Int) (T : List Fd) (v : Value) (ho : W.ownsRow base 146 2 v T.length (fv T)) (hf : ∀ f ∈ T, f.fine) (hq : ∀ q, v.ownBlock = some q → w.heap.size < q ∧ q ∉ g :: bx) :
    ∃ by_, Here w g bs f ((W.setCell ⟨g, 3, none⟩ (.int .i64 r)).setCell ⟨g, 4, none⟩ v) { C with inr := r, inT := T } by_ ∧ ∀ b ∈ by_, b ∈ bx ∨ v.ownBlock = some b := by
  obtain ⟨by_, hc, hs⟩ := h.c.setIn r T v (fv_owr (owns_base ho (fun q _ => Nat.zero_le q)) hf) (fun q e => (hq q e).2)
  exact ⟨by_, h.turn' hc (((TurnB.refl _ _).set _ _ (by simp)).set _ _ (by simp)) (fun q e => (hs q e).imp (fun x => x) (fun x => (hq q x).1)), hs⟩
theorem CnM.growAt {w : World} {g : Nat} {d : CnD} {bs : List Nat} {a : Option Addr} {p : Nat} (h : CnM w g d bs) (hc : w.cell? ⟨g, 10, none⟩ = some (.slice a d.flows.length p)) :
    ∃ xs, w.ownsRow 0 89 15 (.slice a d.flows.length p) d.flows.length xs ∧ (∀ q, (Value.slice a d.flows.length p).ownBlock = some q → q ∈ bs) ∧
      ∀ (w1 : World) (v' : Value) (f : FlD) (vq : Value) (b : List Nat), flowS.own w (flcs f vq) f b → b.Nodup → (∀ q ∈ b, q ∉ g :: bs) → w1.ownsRow 0 89 15 v' (d.flows.length + 1) (xs ++ flcs f vq) → w.grownBy w1 (Value.slice a d.flows.length p).ownBlock → (v'.ownBlock = (Value.slice a d.flows.length p).ownBlock ∨ v'.ownBlock = some w.heap.size) →
        ∃ bs', CnM (w1.setCell ⟨g, 10, none⟩ v') g { d with flows := d.flows ++ [f] } bs' ∧ ∀ q ∈ bs', q ∈ bs ∨ q ∈ b ∨ q = w.heap.size := by
  obtain ⟨ve, vi, vo, a', p', xs, hrow, h1, h2, h3⟩ := h.grow
  have e := (RowIs.cell (j := 10) hrow rfl).symm.trans hc
  injection e with e
  injection e with e1 e2 e3
  subst e1 e3
  exact ⟨xs, h1, h2, h3⟩
/-- The k-th Flow's Up is ended, in place. -/
theorem CnM.flEndUp {w : World} {g : Nat} {d : CnD} {bs : List Nat} (h : CnM w g d bs) (k : Nat) (hk : k < d.flows.length) :
    ∃ gf ve vi vo cap, RowIs w g 43 (cncs d ve vi vo (.slice (some ⟨gf, 0, none⟩) d.flows.length cap)) ∧ gf ∈ bs ∧ gf < w.heap.size ∧ g ≠ gf ∧ w.cell? ⟨gf, k * 15 + 6, none⟩ = some (.bool d.flows[k].tun.up.e) ∧ w.frozen? ⟨gf, k * 15 + 6, none⟩ = false ∧
      CnM (w.setCell ⟨gf, k * 15 + 6, none⟩ (.bool true)) g { d with flows := d.flows.set k (endUp d.flows[k]) } bs ∧ TurnB (g :: bs) w (w.setCell ⟨gf, k * 15 + 6, none⟩ (.bool true)) := by
  obtain ⟨gf, A, C, ve, vi, vo, cap, v0, hrow, hgm, hgfl, hgg, hmid, s1, s2, _, hput⟩ := h.flw k hk
  refine ⟨gf, ve, vi, vo, cap, hrow, hgm, hgfl, hgg, MidIs.cell (j := 6) hmid rfl, MidIs.frozen hmid _, ?_, (TurnB.refl _ _).set _ _ (by simp [hgm])⟩
  have hm2 := MidIs.set hmid 6 (.bool true) (by simp)
  exact hput _ (endUp d.flows[k]) rfl s1 s2 hm2 ((TurnB.refl _ _).set _ _ (by simp))
theorem Here.open {w W : World} {g : Nat} {bs bx : List Nat} {f : Fr} {C : CnD} (h : Here w g bs f W C bx) (id : Int) (hL : C.reg.es.length ≤ 1000) :
    Calls Tryz.prog 105 #[.pointer (some ⟨g, 0, none⟩), .int .i64 id] W fun x W' => ∃ bz, x = .returned (.int .i64 (openRaw C.reg id).2) ∧ Here w g bs f W' { C with reg := (openRaw C.reg id).1 } bz ∧ TurnB (g :: bx) W W' ∧ NewB W bx bz := by
  obtain ⟨ve, A, hr, hsub, hput⟩ := h.c.reg
  refine (openM g 0 _ [] A ve C.reg id W hr hL).mono ?_
  rintro x W' ⟨ve', rfl, hr', ht, hnw⟩
  obtain ⟨bz, hc, hb⟩ := hput W' _ ve' hr' ht hnw
  have ht' : TurnB (g :: bx) W W' := ht.wide (fun x hx => by rcases List.mem_cons.1 hx with rfl | hx; simp; simp [hsub x hx])
  exact ⟨bz, rfl, h.turn hc ht' hb, ht', hb⟩
/-- A head in parts: its Flow is there. -/
def headIn (c : CnD) (x : FlD) (id fl : Int) : CnD × List Fr :=
  if c.away then ((breakD { c with flows := c.flows ++ [x] } id 5).1, [(breakD { c with flows := c.flows ++ [x] } id 5).2])
  else if fl = 1 then ({ hapD { c with flows := c.flows ++ [x] } id 2 with flows := c.flows ++ [endUp x] }, [])
  else ({ c with flows := c.flows ++ [x] }, [])
def headOn (c : CnD) (k id fl : Int) (l : List Fd) : CnD × List Fr :=
  if k = 1 then failD c 1 else if k = 2 then (c, [resetFr id 5]) else headIn c (newFl id c.first l) id fl
def headTo (c : CnD) (id fl : Int) (l : List Fd) : CnD × List Fr :=
  if stateD c.reg id = 4 then (c, [])
  else if stateD c.reg id ≠ 0 then ((breakD c id 3).1, [(breakD c id 3).2])
  else headOn { c with reg := (openRaw c.reg id).1 } (openRaw c.reg id).2 id fl l
theorem head_no {d : CnD} {id fl : Int} {b : ByteArray} {l M : List Fd} {r : Int} (h : decodedD d.inr d.inT b = (l, (r, M), false)) : headD d id fl b = failD d 4 := by unfold headD; rw [h]
theorem head_yes {d : CnD} {id fl : Int} {b : ByteArray} {l M : List Fd} {r : Int} (h : decodedD d.inr d.inT b = (l, (r, M), true)) : headD d id fl b = headTo { d with inr := r, inT := M } id fl l := by
  unfold headD
  rw [h]
  unfold headTo headOn headIn
  dsimp only
  simp only [List.dropLast_concat]
theorem newFl_is (id fst : Int) (l : List Fd) : newFl id fst l = ⟨id, 1000, fst, l, ⟨⟨1000, ⟨#[]⟩, false, false⟩, ⟨1000, ⟨#[]⟩, false, false⟩, 0, 0⟩, false⟩ := by
  unfold newFl newTu
  rw [if_pos (by decide)]
set_option maxHeartbeats 8000000 in
theorem headM (g : Nat) (d : CnD) (bs : List Nat) (fk fl id : Int) (b : ByteArray) (w : World) (h : CnM w g d bs) (hok : okCn d = true) (hb : b.size ≤ 1048576) :
    Calls Tryz.prog 59 #[.pointer (some ⟨g, 0, none⟩), .agg #[.int .i64 fk, .int .i64 fl, .int .i64 id, .string b]] w (StepC w g bs (headD d id fl b)) := by
  obtain ⟨hlen, h60⟩ := cn_len hok
  have hfle : d.flows.length ≤ 60 := by omega
  have hgl := h.lt
  have HLTS := hide h.lts
  have HH := hide (Here.start h ⟨fk, fl, id, b⟩)
  dsimp only at HH
  have hdecf := fun (v : Value) (u : World) (hr : Reads u v d.inT.length 2 (fv d.inT)) => specDecoded d.inT d.inr v b u hr (by obtain ⟨⟨_, _, _, _, _, hcw⟩, _⟩ := h; exact rd_fine hcw.rd.i) (by unfold maxLen; omega)
  obtain ⟨⟨l, ⟨r9, M⟩, is⟩, hD⟩ : ∃ x, decodedD d.inr d.inT b = x := ⟨_, rfl⟩
  have HD := hide hD
  simp only [hD] at hdecf
  clear hD h
  go_enter Tryz.func59, Tryz.ntmps59
  go_upto_region 1 with fail
  have hlW := HH.out.lt
  generalize w.alloc (.cells #[.int .i64 fk, .int .i64 fl, .int .i64 id, .string b] 48) = W at *
  go_cut [5, 6, 7] (fun x p y wc => ∃ la lp ta tp gt, x = (Value.slice la l.length lp) ∧ p = .pointer (some ⟨gt, 0, none⟩) ∧ y = .bool is ∧ Hid (Here w g bs ⟨fk, fl, id, b⟩ wc d bs) ∧ Hid (wc.ownsRow W.heap.size 146 2 (Value.slice la l.length lp) l.length (fv l)) ∧ Hid (wc.ownsRow W.heap.size 146 2 (Value.slice ta M.length tp) M.length (fv M)) ∧ Hid (∀ q, (Value.slice la l.length lp).ownBlock = some q → (Value.slice ta M.length tp).ownBlock ≠ some q) ∧ Hid (RowIs wc gt 40 [.int .i64 r9, Value.slice ta M.length tp]) ∧ Hid (W.heap.size ≤ gt))
  case first =>
    obtain ⟨⟨qe, qi, qo, qf, hrow, hcw⟩, _⟩ := HH.out.c
    obtain ⟨ai, pi, hqi, _, _⟩ := (rd_fv hcw.rd.i).2
    subst hqi
    have x3 := RowIs.cell (j := 3) hrow rfl
    have x4 := RowIs.cell (j := 4) hrow rfl
    have r3 := HH.out.r.cell (j := 3) rfl
    have rl := HH.out.r.lt
    have hgW := hrow.lt
    have HRW := hide (rd_fv hcw.rd.i)
    dsimp only at x3 x4 r3
    clear hrow hcw
    go_wp2_with fail
    refine wp_region_held_drew (S := (fun u => Below W.heap.size W u)) (by kernel_rfl) ((Below.refl _ _).drew) (fun hS => ?_)
    generalize World.drew W = u0 at hS ⊢
    have HRI := hide (HRW.out.new hS)
    clear HRW
    refine wpAnyH_take (i := 0) (v := ?_) rfl (by kernel_rfl) (by kernel_rfl) (by kernel_rfl) (fun _ _ _ h => h) (Or.inl ⟨by kernel_rfl, ?_⟩) hS ?_; rotate_left; focus (intro uu hu; clear hu; go_simp; try with_reducible rfl)
    try simp only [Act.put, List.getElem_toArray, List.getElem_cons_succ, List.getElem_cons_zero, List.setIfInBounds_toArray, List.set_cons_zero, List.set_cons_succ]
    refine wpAnyH_take (i := 1) (v := ?_) rfl (by kernel_rfl) (by kernel_rfl) (by kernel_rfl) (fun _ _ _ h => h) (Or.inl ⟨by kernel_rfl, ?_⟩) hS ?_; rotate_left; focus (intro uu hu; clear hu; go_simp; try with_reducible rfl)
    try simp only [Act.put, List.getElem_toArray, List.getElem_cons_succ, List.getElem_cons_zero, List.setIfInBounds_toArray, List.set_cons_zero, List.set_cons_succ]
    refine wpAnyH_take (i := 2) (v := ?_) rfl (by kernel_rfl) (by kernel_rfl) (by kernel_rfl) (fun _ _ _ h => h) (Or.inl ⟨by kernel_rfl, ?_⟩) hS ?_; rotate_left; focus (intro uu hu; clear hu; go_simp; try with_reducible rfl)
    try simp only [Act.put, List.getElem_toArray, List.getElem_cons_succ, List.getElem_cons_zero, List.setIfInBounds_toArray, List.set_cons_zero, List.set_cons_succ]
    refine wpAnyH_take (i := 3) (v := .agg #[.int .i64 d.inr, .slice ai d.inT.length pi]) rfl (by kernel_rfl) (by kernel_rfl) (by kernel_rfl) (fun _ _ _ h => h) (Or.inl ⟨by kernel_rfl, ?ld⟩) hS ?_; case ld => (intro uu hu; have l3 := (hu.cell (p := ⟨g, 3, none⟩) hgW).trans x3; have l4 := (hu.cell (p := ⟨g, 4, none⟩) hgW).trans x4; clear hu; go_simp)
    try simp only [Act.put, List.getElem_toArray, List.getElem_cons_succ, List.getElem_cons_zero, List.setIfInBounds_toArray, List.set_cons_zero, List.set_cons_succ]
    refine wpAnyH_take (i := 4) (v := ?_) rfl (by kernel_rfl) (by kernel_rfl) (by kernel_rfl) (fun _ _ _ h => h) (Or.inl ⟨by kernel_rfl, ?_⟩) hS ?_; rotate_left; focus (intro uu hu; clear hu; go_simp; try with_reducible rfl)
    try simp only [Act.put, List.getElem_toArray, List.getElem_cons_succ, List.getElem_cons_zero, List.setIfInBounds_toArray, List.set_cons_zero, List.set_cons_succ]
    refine wpAnyH_take (i := 5) (v := .string b) rfl (by kernel_rfl) (by kernel_rfl) (by kernel_rfl) (fun _ _ _ h => h) (Or.inl ⟨by kernel_rfl, ?ld⟩) hS ?_; case ld => (intro uu hu; have l3 := (hu.cell (p := ⟨w.heap.size, 3, none⟩) rl).trans r3; clear hu; go_simp)
    try simp only [Act.put, List.getElem_toArray, List.getElem_cons_succ, List.getElem_cons_zero, List.setIfInBounds_toArray, List.set_cons_zero, List.set_cons_succ]
    refine wpAnyH_ready (rs := [6, 11]) (by kernel_rfl) (by simp) ?_
    refine (AllReadyH.cons rfl (fun K hK => ?_) (AllReadyH.cons rfl (fun K hK => ?_) AllReadyH.nil))
    · skip
      rw [if_pos (by kernel_rfl)]
      go_simp
      refine (hdecf _ u0 HRI.out).mono ?_; rintro e u1 ⟨lv, v9, rfl, ho1, ho2, hne, hbu1⟩
      obtain ⟨la, lp, rfl, _, _⟩ := owns_form ho1
      obtain ⟨ta, tp, rfl, _, _⟩ := owns_form ho2
      have hsz9 := hS.size
      have HO1 := hide (owns_base ho1 (fun q hq => Nat.le_trans hsz9 (ho1.lt q hq).1))
      have HO2 := hide (owns_base ho2 (fun q hq => Nat.le_trans hsz9 (ho2.lt q hq).1))
      have HNE := hide hne
      clear ho1 ho2 hne HRI
      refine hK.out _ _ (bchain hS hbu1) (fun hS => ?_)
      clear hK K hbu1 hsz9
      try simp only [Act.put, List.getElem_toArray, List.getElem_cons_succ, List.getElem_cons_zero, List.setIfInBounds_toArray, List.set_cons_zero, List.set_cons_succ]
      refine wpAnyH_take (i := 7) (v := ?_) rfl (by kernel_rfl) (by kernel_rfl) (by kernel_rfl) (fun _ _ _ h => h) (Or.inl ⟨by kernel_rfl, ?_⟩) hS ?_; rotate_left; focus (intro uu hu; clear hu; go_simp; try with_reducible rfl)
      try simp only [Act.put, List.getElem_toArray, List.getElem_cons_succ, List.getElem_cons_zero, List.setIfInBounds_toArray, List.set_cons_zero, List.set_cons_succ]
      refine wpAnyH_take (i := 8) (v := ?_) rfl (by kernel_rfl) (by kernel_rfl) (by kernel_rfl) (fun _ _ _ h => h) (Or.inl ⟨by kernel_rfl, ?_⟩) hS ?_; rotate_left; focus (intro uu hu; clear hu; go_simp; try with_reducible rfl)
      try simp only [Act.put, List.getElem_toArray, List.getElem_cons_succ, List.getElem_cons_zero, List.setIfInBounds_toArray, List.set_cons_zero, List.set_cons_succ]
      refine wpAnyH_take (i := 9) (v := ?_) rfl (by kernel_rfl) (by kernel_rfl) (by kernel_rfl) (fun _ _ _ h => h) (Or.inl ⟨by kernel_rfl, ?_⟩) hS ?_; rotate_left; focus (intro uu hu; clear hu; go_simp; try with_reducible rfl)
      try simp only [Act.put, List.getElem_toArray, List.getElem_cons_succ, List.getElem_cons_zero, List.setIfInBounds_toArray, List.set_cons_zero, List.set_cons_succ]
      refine wpAnyH_take (i := 10) (v := ?_) rfl (by kernel_rfl) (by kernel_rfl) (by kernel_rfl) (fun _ _ _ h => h) (Or.inl ⟨by kernel_rfl, ?_⟩) hS ?_; rotate_left; focus (intro uu hu; clear hu; go_simp; try with_reducible rfl)
      try simp only [Act.put, List.getElem_toArray, List.getElem_cons_succ, List.getElem_cons_zero, List.setIfInBounds_toArray, List.set_cons_zero, List.set_cons_succ]
      refine wpAnyH_ready (rs := [11]) (by kernel_rfl) (by simp) ?_
      refine (AllReadyH.cons rfl (fun K hK => ?_) AllReadyH.nil)
      rw [if_pos (by kernel_rfl)]
      go_simp
      obtain ⟨u2, hu2⟩ : ∃ u, u1.alloc (.cells #[.int .i64 0, .slice none 0 0] 40) = u := ⟨_, rfl⟩
      have hbu2 : Below u1.heap.size u1 u2 := by rw [← hu2]; exact (Below.refl _ _).alloc (Nat.le_refl _) _
      obtain ⟨gt, hgt⟩ : ∃ q, q = u1.heap.size := ⟨_, rfl⟩
      have HB : Hid (RowIs u2 gt 40 [.int .i64 0, .slice none 0 0]) := by show _; rw [← hu2, hgt]; exact rowIs_new _ _ _
      have HGT : Hid (W.heap.size ≤ gt) := by show _ ≤ _; have := hS.size; omega
      have HGO : Hid ((∀ q, (Value.slice la l.length lp).ownBlock = some q → q ≠ gt) ∧ ∀ q, (Value.slice ta M.length tp).ownBlock = some q → q ≠ gt) := ⟨fun q hq e => by have h1 := (HO1.out.lt q hq).2; omega, fun q hq e => by have h1 := (HO2.out.lt q hq).2; omega⟩
      replace HO1 := hide (owns_new HO1.out hbu2)
      replace HO2 := hide (owns_new HO2.out hbu2)
      rw [hu2, ← hgt]
      refine hK.out _ _ (bchain hS hbu2) (fun hS => ?_)
      clear hu2 hgt hbu2 hK K
      try simp only [Act.put, List.getElem_toArray, List.getElem_cons_succ, List.getElem_cons_zero, List.setIfInBounds_toArray, List.set_cons_zero, List.set_cons_succ]
      refine wpAnyH_take (i := 12) (v := ?_) rfl (by kernel_rfl) (by kernel_rfl) (by kernel_rfl) (fun _ _ _ h => h) (Or.inl ⟨by kernel_rfl, ?_⟩) hS ?_; rotate_left; focus (intro uu hu; clear hu; go_simp; try with_reducible rfl)
      try simp only [Act.put, List.getElem_toArray, List.getElem_cons_succ, List.getElem_cons_zero, List.setIfInBounds_toArray, List.set_cons_zero, List.set_cons_succ]
      refine wpAnyH_ready (rs := [13]) (by kernel_rfl) (by simp) ?_
      refine (AllReadyH.cons rfl (fun K hK => ?_) AllReadyH.nil)
      rw [if_pos (by kernel_rfl)]
      refine wp_store_row 40 (.tmp 6) (.tmp 20) rfl gt #[.int .i64 r9, Value.slice ta M.length tp] rfl rfl 40 #[.int .i64 0, .slice none 0 0] HB.out (by kernel_rfl) rfl (by simp [Value.oneCell']) ?_
      have HB5 := hide (rowIs_setRow (cs' := [.int .i64 r9, Value.slice ta M.length tp]) HB.out)
      have hS5 := below_setRow hS HGT.out #[.int .i64 r9, Value.slice ta M.length tp]
      replace HO1 := hide (owns_kept HO1.out (fun k hk hl => setRow_other u2 gt #[.int .i64 r9, Value.slice ta M.length tp] k (HGO.out.1 k hk)))
      replace HO2 := hide (owns_kept HO2.out (fun k hk hl => setRow_other u2 gt #[.int .i64 r9, Value.slice ta M.length tp] k (HGO.out.2 k hk)))
      clear HB
      have HB := HB5
      clear HB5
      generalize u2.setRow gt #[.int .i64 r9, Value.slice ta M.length tp] = u3 at *
      refine hK.out _ _ hS5 (fun hS => ?_)
      clear hK K hS5
      try simp only [Act.put, List.getElem_toArray, List.getElem_cons_succ, List.getElem_cons_zero, List.setIfInBounds_toArray, List.set_cons_zero, List.set_cons_succ]
      refine wpAnyH_take (i := 14) (v := ?_) rfl (by kernel_rfl) (by kernel_rfl) (by kernel_rfl) (fun _ _ _ h => h) (Or.inl ⟨by kernel_rfl, ?_⟩) hS ?_; rotate_left; focus (intro uu hu; clear hu; go_simp; try with_reducible rfl)
      try simp only [Act.put, List.getElem_toArray, List.getElem_cons_succ, List.getElem_cons_zero, List.setIfInBounds_toArray, List.set_cons_zero, List.set_cons_succ]
      refine wpAnyH_done (by kernel_rfl) ?_ _
      go_wp2_with fail
      go_meet
      exact ⟨la, lp, ta, tp, gt, rfl, rfl, rfl, HH.out.new hS, HO1, HO2, HNE, HB, HGT⟩
    · skip
      rw [if_pos (by kernel_rfl)]
      go_simp
      obtain ⟨u4, hu4⟩ : ∃ u, u0.alloc (.cells #[.int .i64 0, .slice none 0 0] 40) = u := ⟨_, rfl⟩
      have hbu4 : Below u0.heap.size u0 u4 := by rw [← hu4]; exact (Below.refl _ _).alloc (Nat.le_refl _) _
      obtain ⟨gt, hgt⟩ : ∃ q, q = u0.heap.size := ⟨_, rfl⟩
      have HB : Hid (RowIs u4 gt 40 [.int .i64 0, .slice none 0 0]) := by show _; rw [← hu4, hgt]; exact rowIs_new _ _ _
      have HGT : Hid (W.heap.size ≤ gt) := by show _ ≤ _; have := hS.size; omega
      replace HRI := hide (Reads.new HRI.out hbu4)
      rw [hu4, ← hgt]
      refine hK.out _ _ (bchain hS hbu4) (fun hS => ?_)
      clear hu4 hgt hbu4 hK K
      try simp only [Act.put, List.getElem_toArray, List.getElem_cons_succ, List.getElem_cons_zero, List.setIfInBounds_toArray, List.set_cons_zero, List.set_cons_succ]
      refine wpAnyH_ready (rs := [6]) (by kernel_rfl) (by simp) ?_
      refine (AllReadyH.cons rfl (fun K hK => ?_) AllReadyH.nil)
      rw [if_pos (by kernel_rfl)]
      go_simp
      refine (hdecf _ u4 HRI.out).mono ?_; rintro e u5 ⟨lv, v9, rfl, ho1, ho2, hne, hbu5⟩
      obtain ⟨la, lp, rfl, _, _⟩ := owns_form ho1
      obtain ⟨ta, tp, rfl, _, _⟩ := owns_form ho2
      have hsz9 := hS.size
      have HO1 := hide (owns_base ho1 (fun q hq => Nat.le_trans hsz9 (ho1.lt q hq).1))
      have HO2 := hide (owns_base ho2 (fun q hq => Nat.le_trans hsz9 (ho2.lt q hq).1))
      have HNE := hide hne
      have HGO : Hid ((∀ q, (Value.slice la l.length lp).ownBlock = some q → q ≠ gt) ∧ ∀ q, (Value.slice ta M.length tp).ownBlock = some q → q ≠ gt) := ⟨fun q hq e => by have h1 := (ho1.lt q hq).1; have := HB.out.lt; omega, fun q hq e => by have h1 := (ho2.lt q hq).1; have := HB.out.lt; omega⟩
      clear ho1 ho2 hne HRI
      replace HB := hide (HB.out.new hbu5)
      refine hK.out _ _ (bchain hS hbu5) (fun hS => ?_)
      clear hK K hbu5 hsz9
      try simp only [Act.put, List.getElem_toArray, List.getElem_cons_succ, List.getElem_cons_zero, List.setIfInBounds_toArray, List.set_cons_zero, List.set_cons_succ]
      refine wpAnyH_take (i := 7) (v := ?_) rfl (by kernel_rfl) (by kernel_rfl) (by kernel_rfl) (fun _ _ _ h => h) (Or.inl ⟨by kernel_rfl, ?_⟩) hS ?_; rotate_left; focus (intro uu hu; clear hu; go_simp; try with_reducible rfl)
      try simp only [Act.put, List.getElem_toArray, List.getElem_cons_succ, List.getElem_cons_zero, List.setIfInBounds_toArray, List.set_cons_zero, List.set_cons_succ]
      refine wpAnyH_take (i := 8) (v := ?_) rfl (by kernel_rfl) (by kernel_rfl) (by kernel_rfl) (fun _ _ _ h => h) (Or.inl ⟨by kernel_rfl, ?_⟩) hS ?_; rotate_left; focus (intro uu hu; clear hu; go_simp; try with_reducible rfl)
      try simp only [Act.put, List.getElem_toArray, List.getElem_cons_succ, List.getElem_cons_zero, List.setIfInBounds_toArray, List.set_cons_zero, List.set_cons_succ]
      refine wpAnyH_take (i := 9) (v := ?_) rfl (by kernel_rfl) (by kernel_rfl) (by kernel_rfl) (fun _ _ _ h => h) (Or.inl ⟨by kernel_rfl, ?_⟩) hS ?_; rotate_left; focus (intro uu hu; clear hu; go_simp; try with_reducible rfl)
      try simp only [Act.put, List.getElem_toArray, List.getElem_cons_succ, List.getElem_cons_zero, List.setIfInBounds_toArray, List.set_cons_zero, List.set_cons_succ]
      refine wpAnyH_take (i := 10) (v := ?_) rfl (by kernel_rfl) (by kernel_rfl) (by kernel_rfl) (fun _ _ _ h => h) (Or.inl ⟨by kernel_rfl, ?_⟩) hS ?_; rotate_left; focus (intro uu hu; clear hu; go_simp; try with_reducible rfl)
      try simp only [Act.put, List.getElem_toArray, List.getElem_cons_succ, List.getElem_cons_zero, List.setIfInBounds_toArray, List.set_cons_zero, List.set_cons_succ]
      refine wpAnyH_take (i := 12) (v := ?_) rfl (by kernel_rfl) (by kernel_rfl) (by kernel_rfl) (fun _ _ _ h => h) (Or.inl ⟨by kernel_rfl, ?_⟩) hS ?_; rotate_left; focus (intro uu hu; clear hu; go_simp; try with_reducible rfl)
      try simp only [Act.put, List.getElem_toArray, List.getElem_cons_succ, List.getElem_cons_zero, List.setIfInBounds_toArray, List.set_cons_zero, List.set_cons_succ]
      refine wpAnyH_ready (rs := [13]) (by kernel_rfl) (by simp) ?_
      refine (AllReadyH.cons rfl (fun K hK => ?_) AllReadyH.nil)
      rw [if_pos (by kernel_rfl)]
      refine wp_store_row 40 (.tmp 6) (.tmp 20) rfl gt #[.int .i64 r9, Value.slice ta M.length tp] rfl rfl 40 #[.int .i64 0, .slice none 0 0] HB.out (by kernel_rfl) rfl (by simp [Value.oneCell']) ?_
      have HB5 := hide (rowIs_setRow (cs' := [.int .i64 r9, Value.slice ta M.length tp]) HB.out)
      have hS5 := below_setRow hS HGT.out #[.int .i64 r9, Value.slice ta M.length tp]
      replace HO1 := hide (owns_kept HO1.out (fun k hk hl => setRow_other u5 gt #[.int .i64 r9, Value.slice ta M.length tp] k (HGO.out.1 k hk)))
      replace HO2 := hide (owns_kept HO2.out (fun k hk hl => setRow_other u5 gt #[.int .i64 r9, Value.slice ta M.length tp] k (HGO.out.2 k hk)))
      clear HB
      have HB := HB5
      clear HB5
      generalize u5.setRow gt #[.int .i64 r9, Value.slice ta M.length tp] = u6 at *
      refine hK.out _ _ hS5 (fun hS => ?_)
      clear hK K hS5
      try simp only [Act.put, List.getElem_toArray, List.getElem_cons_succ, List.getElem_cons_zero, List.setIfInBounds_toArray, List.set_cons_zero, List.set_cons_succ]
      refine wpAnyH_take (i := 14) (v := ?_) rfl (by kernel_rfl) (by kernel_rfl) (by kernel_rfl) (fun _ _ _ h => h) (Or.inl ⟨by kernel_rfl, ?_⟩) hS ?_; rotate_left; focus (intro uu hu; clear hu; go_simp; try with_reducible rfl)
      try simp only [Act.put, List.getElem_toArray, List.getElem_cons_succ, List.getElem_cons_zero, List.setIfInBounds_toArray, List.set_cons_zero, List.set_cons_succ]
      refine wpAnyH_done (by kernel_rfl) ?_ _
      go_wp2_with fail
      go_meet
      exact ⟨la, lp, ta, tp, gt, rfl, rfl, rfl, HH.out.new hS, HO1, HO2, HNE, HB, HGT⟩
  rename_i wc
  obtain ⟨la, lp, ta, tp, gt, rfl, rfl, rfl, HH2, HO1, HO2, HNE, HB, HGT⟩ := hcut
  clear HH hdecf
  have HH := HH2
  clear HH2
  cases is
  · have HW := hide (head_no (id := id) (fl := fl) HD.out)
    go_wp2_with fail
    refine (failC g d bs 4 _ HH.out.c (by decide) (by decide) (by omega)).mono ?_
    intro x w3 hst
    have hst2 := HH.out.done hst
    obtain ⟨v3, bs3, rfl, hrest⟩ := hst2
    go_wp2_with fail
    go_ret
    rw [HW.out]
    exact ⟨v3, bs3, rfl, hrest⟩
  have HW := hide (head_yes (id := id) (fl := fl) HD.out)
  obtain ⟨hl9, hT9⟩ := dec_fine HD.out
  have hok1 : okCn { d with inr := r9, inT := M } = true := okCn_iff.2 ⟨(okCn_iff.1 hok).1, hT9, (okCn_iff.1 hok).2.2⟩
  have HLF : Hid (∀ f ∈ l, f.fine) := fun f hf => by
    unfold okFs at hl9
    simp only [Bool.and_eq_true, List.all_eq_true] at hl9
    have := okF_parts (hl9.1 f hf)
    exact ⟨by omega, by omega⟩
  have hMF : ∀ f ∈ M, f.fine := fun f hf => by
    unfold okT at hT9
    simp only [Bool.and_eq_true, List.all_eq_true] at hT9
    have := okF_parts (hT9.2.1 f hf)
    exact ⟨by omega, by omega⟩
  have hqT : ∀ q, (Value.slice ta M.length tp).ownBlock = some q → w.heap.size < q ∧ q ∉ g :: bs := fun q hq => by
    have := (HO2.out.lt q hq).1
    exact ⟨by omega, fun hx => by have := HLTS.out q hx; omega⟩
  obtain ⟨bx, hh1, hsb⟩ := HH.out.setIn r9 M (Value.slice ta M.length tp) HO2.out hMF hqT
  have HQ : Hid (∀ q, (Value.slice la l.length lp).ownBlock = some q → w.heap.size < q ∧ q ∉ g :: bx) := fun q hq => by
    have := (HO1.out.lt q hq).1
    exact ⟨by omega, fun hx => by
      rcases List.mem_cons.1 hx with e | e
      · have := HLTS.out g (by simp); omega
      · rcases hsb q e with e | e
        · have := HLTS.out q (by simp [e]); omega
        · exact HNE.out q hq e⟩
  have ho9 := owns_apart (owns_apart HO1.out ⟨g, 3, none⟩ (.int .i64 r9) (fun e => (HQ.out g e).2 (by simp))) ⟨g, 4, none⟩ (Value.slice ta M.length tp) (fun e => (HQ.out g e).2 (by simp))
  obtain ⟨⟨qe, qi, qo, qf, hrow, hcw⟩, _⟩ := HH.out.c
  have x3 := RowIs.cell (j := 3) hrow rfl
  have x4 := RowIs.cell (j := 4) hrow rfl
  have xf := fun j => RowIs.frozen hrow j
  have xl := hrow.lt
  have t0 := RowIs.cell (j := 0) HB.out rfl
  have t1 := RowIs.cell (j := 1) HB.out rfl
  have tl := HB.out.lt
  clear hrow hcw
  go_upto_region 5 with fail
  clear HH HO1 HO2 HNE HB HGT x3 x4 xf xl t0 t1 tl hqT hsb hMF hT9 hl9
  have HH := hide hh1
  have HO1 := hide ho9
  clear hh1 ho9
  generalize (wc.setCell ⟨g, 3, none⟩ (.int .i64 r9)).setCell ⟨g, 4, none⟩ (Value.slice ta M.length tp) = W1 at *
  obtain ⟨d1, hd1⟩ : ∃ x, ({ d with inr := r9, inT := M } : CnD) = x := ⟨_, rfl⟩
  rw [hd1] at HH HW hok1
  obtain ⟨hlen1, h601⟩ := cn_len hok1
  have HM1 := hide (mild_ok hok1)
  have hro1 := (okCn_iff.1 hok1).1
  clear hd1
  have hS5 := fun v w h => specState0 d1.reg v id w h
  obtain ⟨s, hs⟩ : ∃ s, stateD d1.reg id = s := ⟨_, rfl⟩
  rw [hs] at hS5
  unfold headTo at HW
  rw [hs] at HW
  clear hs
  obtain ⟨⟨qe, qi, qo, qf, hrow, hcw⟩, _⟩ := HH.out.c
  have x0 := RowIs.cell (j := 0) hrow rfl
  have x1 := RowIs.cell (j := 1) hrow rfl
  have x2 := RowIs.cell (j := 2) hrow rfl
  have xl := hrow.lt
  have HE := hide hcw.rd.e
  have r2 := HH.out.r.cell (j := 2) rfl
  have rl := HH.out.r.lt
  clear hrow hcw
  dsimp only at x0 x1 x2 r2 HE
  go_upto_region 5 with fail
  have y0 : ∀ y : Later W1, y.w.cell? ⟨g, 0, none⟩ = some (.int .i64 d1.reg.lim) := fun y => (y.b.cell (p := ⟨g, 0, none⟩) xl).trans x0
  have y1 : ∀ y : Later W1, y.w.cell? ⟨g, 1, none⟩ = some (.int .i64 d1.reg.top) := fun y => (y.b.cell (p := ⟨g, 1, none⟩) xl).trans x1
  have y2 : ∀ y : Later W1, y.w.cell? ⟨g, 2, none⟩ = some qe := fun y => (y.b.cell (p := ⟨g, 2, none⟩) xl).trans x2
  have z2 : ∀ y : Later W1, y.w.cell? ⟨w.heap.size, 2, none⟩ = some (.int .i64 id) := fun y => (y.b.cell (p := ⟨w.heap.size, 2, none⟩) rl).trans r2
  have hne : Nonempty (Later W1) := ⟨⟨W1, Below.refl _ _⟩⟩; refine region_later (by kernel_rfl) (by kernel_rfl) ?_
  repeat (go_big_quiet_step (fail))
  go_big_quiet_want; go_big_quiet_op; refine ⟨.int .i64 s, fun y => later_calls (x := y) (hS5 _ y.w (HE.out.new y.b)), ?_⟩; go_big_quiet_on
  repeat (go_big_quiet_step (fail))
  refine wpQuiet_nil ?_; intro _ hw'; obtain ⟨y, hw''⟩ := hw'; subst hw''; have hby := y.b
  generalize y.w = W2 at *
  replace HH := hide (HH.out.new hby)
  replace HO1 := hide (owns_new HO1.out hby)
  clear hby x0 x1 x2 xl HE y0 y1 y2 z2 r2 rl hne
  clear hS5
  by_cases hs4 : s = 4
  · subst hs4
    rw [if_pos rfl] at HW
    go_wp2_with fail
    go_ret
    rw [HW.out]
    exact HH.out.done (StepC.nothing HH.out.c)
  rw [if_neg hs4] at HW
  have hs4b : (s == 4) = false := by simpa using hs4
  by_cases hs0 : s = 0
  rotate_left
  · rw [if_pos hs0] at HW
    have hs0b : (s == 0) = false := by simpa using hs0
    have hs0n : (s != 0) = true := by simpa using hs0
    have r2 := HH.out.r.cell (j := 2) rfl
    have rl := HH.out.r.lt
    dsimp only at r2
    go_wp2_with fail
    refine (HH.out.break id 3 _ HM1.out (by decide) (by decide)).mono ?_
    rintro x w6 ⟨bz, rfl, hh6, _, _⟩
    dsimp only [frv]
    have HH6 := hide hh6
    clear hh6 r2 rl
    go_wp2_with fail
    go_ret
    rw [HW.out]
    exact HH6.out.done (StepC.one (breakD d1 id 3).2 HH6.out.c)
  subst hs0
  rw [if_neg (by decide)] at HW
  have hcode := openRaw_code d1.reg id
  have hro2 := open_ok (id := id) hro1
  have hop := fun {W : World} {bx : List Nat} (h : Here w g bs ⟨fk, fl, id, b⟩ W d1 bx) => Here.open h id (by omega)
  have hlop : (openRaw d1.reg id).2 ≠ 1 → (openRaw d1.reg id).2 ≠ 2 → (openRaw d1.reg id).1.es.length = d1.reg.es.length + 1 := by
    unfold openRaw
    split
    · split
      · intro _ h; exact absurd rfl h
      · intro _ _; simp
    · intro h; exact absurd rfl h
  obtain ⟨⟨reg2, k⟩, hq⟩ : ∃ x, openRaw d1.reg id = x := ⟨_, rfl⟩
  simp only [hq] at hop hlop hcode hro2 HW
  obtain ⟨d2, hd2⟩ : ∃ x, ({ d1 with reg := reg2 } : CnD) = x := ⟨_, rfl⟩
  simp only [hd2] at hop HW
  have hf2 : d2.flows = d1.flows := by rw [← hd2]
  have hr2 : d2.reg = reg2 := by rw [← hd2]
  have hg2 : d2.get = d1.get := by rw [← hd2]
  have HF2 := hide hf2; have HR2 := hide hr2; have HG2 := hide hg2
  have hl2 : d2.flows.length ≤ 60 := by rw [hf2]; omega
  clear hd2 hf2 hr2 hg2 hq
  unfold headOn at HW
  go_upto_region 10 with fail
  have hD : Below W2.heap.size W2 (World.drew W2) := (Below.refl _ _).drew
  replace HH := hide (HH.out.new hD)
  replace HO1 := hide (owns_new HO1.out hD)
  have HLQ : Hid (∀ q, (Value.slice la l.length lp).ownBlock = some q → q < (World.drew W2).heap.size) := fun q hq => (HO1.out.lt q hq).2
  clear hD
  refine wp_region_held_drew (S := fun u => RowIs u w.heap.size 48 [.int .i64 fk, .int .i64 fl, .int .i64 id, .string b]) (by kernel_rfl) HH.out.r (fun hS => ?_)
  generalize World.drew W2 = v10 at *
  refine wpAnyH_take (i := 0) (v := ?_) rfl (by kernel_rfl) (by kernel_rfl) (by kernel_rfl) (fun _ _ _ h => h) (Or.inl ⟨by rfl, ?_⟩) hS ?_; rotate_left; focus (intro w hw; clear hw; go_simp; try with_reducible rfl)
  refine wpAnyH_take (i := 1) (v := ?_) rfl (by kernel_rfl) (by kernel_rfl) (by kernel_rfl) (fun _ _ _ h => h) (Or.inl ⟨by rfl, ?_⟩) hS ?_; rotate_left; focus (intro w hw; clear hw; go_simp; try with_reducible rfl)
  refine wpAnyH_take (i := 2) (v := ?_) rfl (by kernel_rfl) (by kernel_rfl) (by kernel_rfl) (fun _ _ _ h => h) (Or.inl ⟨by rfl, ?_⟩) hS ?_; rotate_left; focus (intro w hw; clear hw; go_simp; try with_reducible rfl)
  refine wpAnyH_take (i := 3) (v := ?_) rfl (by kernel_rfl) (by kernel_rfl) (by kernel_rfl) (fun _ _ _ h => h) (Or.inl ⟨by rfl, ?_⟩) hS ?_; rotate_left; focus (intro w hw; clear hw; go_simp; try with_reducible rfl)
  refine wpAnyH_take (i := 4) (v := .int .i64 id) rfl (by kernel_rfl) (by kernel_rfl) (by kernel_rfl) (fun _ _ _ h => h) (Or.inl ⟨by kernel_rfl, ?ld⟩) hS ?_; case ld => (intro uu hu; have z2 := RowIs.cell (j := 2) hu rfl; have z8 := hu.lt; clear hu; go_simp)
  try simp only [Act.put, List.getElem_toArray, List.getElem_cons_succ, List.getElem_cons_zero, List.setIfInBounds_toArray, List.set_cons_zero, List.set_cons_succ]
  refine wpAnyH_ready (rs := [5]) (by kernel_rfl) (by simp) ?_; refine AllReadyH.cons rfl (fun K hK => ?_) AllReadyH.nil; go_simp
  refine (hop HH.out).mono ?_
  rintro x w3 ⟨bz, rfl, hh2, ht2, hn2⟩
  replace HO1 := hide (owns_kept HO1.out (fun k hk hl => ht2.block k hl (HQ.out k hk).2))
  replace HQ : Hid (∀ q, (Value.slice la l.length lp).ownBlock = some q → w.heap.size < q ∧ q ∉ g :: bz) := fun q hq => ⟨(HQ.out q hq).1, fun hx => by
    rcases List.mem_cons.1 hx with e | e
    · exact (HQ.out q hq).2 (by simp [e])
    · rcases hn2 q e with e | e
      · exact (HQ.out q hq).2 (by simp [e])
      · have := HLQ.out q hq; omega⟩
  replace HH := hide hh2
  clear ht2 hn2 hh2 HLQ
  refine hK.out _ _ HH.out.r (fun hS => ?_)
  clear hK K
  try simp only [Act.put, List.getElem_toArray, List.getElem_cons_succ, List.getElem_cons_zero, List.setIfInBounds_toArray, List.set_cons_zero, List.set_cons_succ]
  refine wpAnyH_done (by kernel_rfl) ?_ _
  clear hS
  clear hop
  by_cases hk1 : k = 1
  · subst hk1
    rw [if_pos rfl] at HW
    go_wp2_with fail
    refine (failC g d2 bz 1 _ HH.out.c (by decide) (by decide) (by omega)).mono ?_
    intro x w4 hst
    have hst2 := HH.out.done hst
    obtain ⟨v3, bs3, rfl, hrest⟩ := hst2
    go_wp2_with fail
    go_ret
    rw [HW.out]
    exact ⟨v3, bs3, rfl, hrest⟩
  rw [if_neg hk1] at HW
  have hk1b : (k == 1) = false := by simpa using hk1
  by_cases hk2 : k = 2
  · subst hk2
    rw [if_pos rfl] at HW
    have r2 := HH.out.r.cell (j := 2) rfl
    have rl := HH.out.r.lt
    dsimp only at r2
    go_wp2_with fail
    refine (resetS id 5 _ (by decide) (by decide)).mono ?_; rintro x w4 ⟨rfl, hb4⟩
    have HH4 := hide (HH.out.new hb4)
    clear hb4 r2 rl
    dsimp only [frv, resetFr]
    go_wp2_with fail
    go_ret
    rw [HW.out]
    exact HH4.out.done (StepC.one (resetFr id 5) HH4.out.c)
  rw [if_neg hk2] at HW
  have hk2b : (k == 2) = false := by simpa using hk2
  have hle2 := hlop hk1 hk2
  have hesl := reg_sixty hro2
  obtain ⟨fst, hfst⟩ : ∃ z, d2.first = z := ⟨_, rfl⟩
  rw [hfst] at HW
  have HNF := hide (newFl_is id fst l)
  have HML : Hid ((d2.flows ++ [newFl id fst l]).length = d2.reg.es.length ∧ d2.reg.es.length ≤ 60) := ⟨by rw [List.length_append, HF2.out, HR2.out, hle2, hlen1]; rfl, by rw [HR2.out]; exact hesl⟩
  have HML2 : Hid (Mild { d2 with flows := d2.flows ++ [newFl id fst l] } 16777215) := ⟨HML.out.1, HML.out.2, by show _ ≤ d2.get ∧ d2.get ≤ _; rw [HG2.out]; exact HM1.out.get, fun f hf => by
    rcases List.mem_append.1 hf with e | e
    · exact HM1.out.flw f (by rw [← HF2.out]; exact e)
    · simp at e; rw [e, HNF.out]; exact ⟨by show (-16777215 : Int) ≤ 1000; decide, by show (1000 : Int) ≤ 16777215; decide⟩⟩
  clear hlop hro2 hcode hle2 hesl
  have hnt := fun w => specNewTunnel 1000 w
  rw [show newTu 1000 = (⟨⟨1000, ⟨#[]⟩, false, false⟩, ⟨1000, ⟨#[]⟩, false, false⟩, 0, 0⟩, true) by unfold newTu; rw [if_pos (by decide)]] at hnt
  dsimp only [tuv] at hnt
  go_wp2_with fail
  refine (hnt _).mono ?_; clear hnt; rintro x w4 ⟨rfl, hb4⟩
  replace HH := hide (HH.out.new hb4)
  replace HO1 := hide (owns_new HO1.out hb4)
  clear hb4
  go_upto_region 16 with (refine wpList_store_row (by rfl) 87 _ _ (by rfl) w4.heap.size [.int .i64 1000, .string ⟨#[]⟩, .bool false, .bool false, .int .i64 1000, .string ⟨#[]⟩, .bool false, .bool false, .int .i64 0, .int .i64 0] (by rfl) (by rfl) 87 [.int .i64 0, .string ⟨#[]⟩, .bool false, .bool false, .int .i64 0, .string ⟨#[]⟩, .bool false, .bool false, .int .i64 0, .int .i64 0] (rowIs_new w4 87 [.int .i64 0, .string ⟨#[]⟩, .bool false, .bool false, .int .i64 0, .string ⟨#[]⟩, .bool false, .bool false, .int .i64 0, .int .i64 0]) (by kernel_rfl) rfl (by intro u hu; simp at hu; rcases hu with rfl | rfl | rfl | rfl | rfl | rfl | rfl | rfl | rfl | rfl <;> rfl) ?_)
  have RU : RowIs ((w4.alloc (.cells #[.int .i64 0, .string ⟨#[]⟩, .bool false, .bool false, .int .i64 0, .string ⟨#[]⟩, .bool false, .bool false, .int .i64 0, .int .i64 0] 87)).setRow w4.heap.size #[.int .i64 1000, .string ⟨#[]⟩, .bool false, .bool false, .int .i64 1000, .string ⟨#[]⟩, .bool false, .bool false, .int .i64 0, .int .i64 0]) w4.heap.size 87 [.int .i64 1000, .string ⟨#[]⟩, .bool false, .bool false, .int .i64 1000, .string ⟨#[]⟩, .bool false, .bool false, .int .i64 0, .int .i64 0] := rowIs_setRow (cs' := [.int .i64 1000, .string ⟨#[]⟩, .bool false, .bool false, .int .i64 1000, .string ⟨#[]⟩, .bool false, .bool false, .int .i64 0, .int .i64 0]) (rowIs_new w4 87 [.int .i64 0, .string ⟨#[]⟩, .bool false, .bool false, .int .i64 0, .string ⟨#[]⟩, .bool false, .bool false, .int .i64 0, .int .i64 0])
  have hbV : Below w4.heap.size w4 ((w4.alloc (.cells #[.int .i64 0, .string ⟨#[]⟩, .bool false, .bool false, .int .i64 0, .string ⟨#[]⟩, .bool false, .bool false, .int .i64 0, .int .i64 0] 87)).setRow w4.heap.size #[.int .i64 1000, .string ⟨#[]⟩, .bool false, .bool false, .int .i64 1000, .string ⟨#[]⟩, .bool false, .bool false, .int .i64 0, .int .i64 0]) := below_setRow ((Below.refl _ _).alloc (Nat.le_refl _) _) (Nat.le_refl _) #[.int .i64 1000, .string ⟨#[]⟩, .bool false, .bool false, .int .i64 1000, .string ⟨#[]⟩, .bool false, .bool false, .int .i64 0, .int .i64 0]
  have HGU : Hid (w4.heap.size ∉ g :: bz) := fun hx => by have := HH.out.c.lts _ hx; omega
  replace HH := hide (HH.out.new hbV)
  replace HO1 := hide (owns_new HO1.out hbV)
  clear hbV
  generalize hV : (w4.alloc (.cells #[.int .i64 0, .string ⟨#[]⟩, .bool false, .bool false, .int .i64 0, .string ⟨#[]⟩, .bool false, .bool false, .int .i64 0, .int .i64 0] 87)).setRow w4.heap.size #[.int .i64 1000, .string ⟨#[]⟩, .bool false, .bool false, .int .i64 1000, .string ⟨#[]⟩, .bool false, .bool false, .int .i64 0, .int .i64 0] = W5 at *
  clear hV
  obtain ⟨gu, hgu⟩ : ∃ q, w4.heap.size = q := ⟨_, rfl⟩
  rw [hgu] at RU HGU
  try rw [hgu]
  clear hgu
  have HRU := hide RU
  clear RU
  obtain ⟨bx2, hbx2⟩ : ∃ x, bz = x := ⟨_, rfl⟩
  subst hbx2
  go_cut [] (fun wc => ∃ u by_, u = wc ∧ Hid (Here w g bs ⟨fk, fl, id, b⟩ u { d2 with flows := d2.flows ++ [newFl id fst l] } by_))
  case first =>
    obtain ⟨⟨qe, qi, qo, qf, hrow, hcw⟩, _⟩ := HH.out.c
    obtain ⟨af, pf, hqf, _, _⟩ := hcw.rd.f.form
    subst hqf
    have HX10 := hide (RowIs.cell (j := 10) hrow rfl)
    have HX9 := hide (RowIs.cell (j := 9) hrow rfl)
    have hgl9 := hrow.lt
    have HGL := hide hgl9
    try dsimp only at HX10 HX9
    rw [hfst] at HX9
    clear hrow hcw
    go_wp2_with fail
    have hD : Below W5.heap.size W5 (World.drew W5) := (Below.refl _ _).drew
    refine wp_region_held_drew (S := fun u => RowIs u w.heap.size 48 [.int .i64 fk, .int .i64 fl, .int .i64 id, .string b] ∧ RowIs u gu 87 [.int .i64 1000, .string ⟨#[]⟩, .bool false, .bool false, .int .i64 1000, .string ⟨#[]⟩, .bool false, .bool false, .int .i64 0, .int .i64 0] ∧ u.cell? ⟨g, 9, none⟩ = some (.int .i64 fst)) (by kernel_rfl) ⟨HH.out.r.new hD, HRU.out.new hD, HX9.out⟩ (fun hS => ?_)
    have HX0 : Hid ((World.drew W5).cell? ⟨g, 10, none⟩ = some (.slice af d2.flows.length pf)) := HX10.out
    clear HX10
    have HX10 := HX0
    replace HH := hide (HH.out.new hD)
    replace HO1 := hide (owns_new HO1.out hD)
    clear HX0 hD HX9
    generalize World.drew W5 = u0 at *
    refine wpAnyH_take (i := 0) (v := ?_) rfl (by kernel_rfl) (by kernel_rfl) (by kernel_rfl) (fun _ _ _ h => h) (Or.inl ⟨by kernel_rfl, ?_⟩) hS ?_; rotate_left; focus (intro uu hu; clear hu; go_simp; try with_reducible rfl)
    try simp only [Act.put, List.getElem_toArray, List.getElem_cons_succ, List.getElem_cons_zero, List.setIfInBounds_toArray, List.set_cons_zero, List.set_cons_succ]
    refine wpAnyH_take (i := 1) (v := ?_) rfl (by kernel_rfl) (by kernel_rfl) (by kernel_rfl) (fun _ _ _ h => h) (Or.inl ⟨by kernel_rfl, ?_⟩) hS ?_; rotate_left; focus (intro uu hu; clear hu; go_simp; try with_reducible rfl)
    try simp only [Act.put, List.getElem_toArray, List.getElem_cons_succ, List.getElem_cons_zero, List.setIfInBounds_toArray, List.set_cons_zero, List.set_cons_succ]
    refine wpAnyH_take (i := 2) (v := ?_) rfl (by kernel_rfl) (by kernel_rfl) (by kernel_rfl) (fun _ _ _ h => h) (Or.inl ⟨by kernel_rfl, ?_⟩) hS ?_; rotate_left; focus (intro uu hu; clear hu; go_simp; try with_reducible rfl)
    try simp only [Act.put, List.getElem_toArray, List.getElem_cons_succ, List.getElem_cons_zero, List.setIfInBounds_toArray, List.set_cons_zero, List.set_cons_succ]
    refine wpAnyH_take (i := 3) (v := ?_) rfl (by kernel_rfl) (by kernel_rfl) (by kernel_rfl) (fun _ _ _ h => h) (Or.inl ⟨by kernel_rfl, ?_⟩) hS ?_; rotate_left; focus (intro uu hu; clear hu; go_simp; try with_reducible rfl)
    try simp only [Act.put, List.getElem_toArray, List.getElem_cons_succ, List.getElem_cons_zero, List.setIfInBounds_toArray, List.set_cons_zero, List.set_cons_succ]
    refine wpAnyH_take (i := 5) (v := ?_) rfl (by kernel_rfl) (by kernel_rfl) (by kernel_rfl) (fun _ _ _ h => h) (Or.inl ⟨by kernel_rfl, ?_⟩) hS ?_; rotate_left; focus (intro uu hu; clear hu; go_simp; try with_reducible rfl)
    try simp only [Act.put, List.getElem_toArray, List.getElem_cons_succ, List.getElem_cons_zero, List.setIfInBounds_toArray, List.set_cons_zero, List.set_cons_succ]
    refine wpAnyH_take (i := 6) (v := .int .i64 id) rfl (by kernel_rfl) (by kernel_rfl) (by kernel_rfl) (fun _ _ _ h => h) (Or.inl ⟨by kernel_rfl, ?ld⟩) hS ?_; case ld => (intro uu hu; have l3 := RowIs.cell (j := 2) hu.1 rfl; have ll := hu.1.lt; clear hu; go_simp)
    try simp only [Act.put, List.getElem_toArray, List.getElem_cons_succ, List.getElem_cons_zero, List.setIfInBounds_toArray, List.set_cons_zero, List.set_cons_succ]
    refine wpAnyH_take (i := 7) (v := ?_) rfl (by kernel_rfl) (by kernel_rfl) (by kernel_rfl) (fun _ _ _ h => h) (Or.inl ⟨by kernel_rfl, ?_⟩) hS ?_; rotate_left; focus (intro uu hu; clear hu; go_simp; try with_reducible rfl)
    try simp only [Act.put, List.getElem_toArray, List.getElem_cons_succ, List.getElem_cons_zero, List.setIfInBounds_toArray, List.set_cons_zero, List.set_cons_succ]
    refine wpAnyH_take (i := 8) (v := ?_) rfl (by kernel_rfl) (by kernel_rfl) (by kernel_rfl) (fun _ _ _ h => h) (Or.inl ⟨by kernel_rfl, ?_⟩) hS ?_; rotate_left; focus (intro uu hu; clear hu; go_simp; try with_reducible rfl)
    try simp only [Act.put, List.getElem_toArray, List.getElem_cons_succ, List.getElem_cons_zero, List.setIfInBounds_toArray, List.set_cons_zero, List.set_cons_succ]
    refine wpAnyH_take (i := 9) (v := ?_) rfl (by kernel_rfl) (by kernel_rfl) (by kernel_rfl) (fun _ _ _ h => h) (Or.inl ⟨by kernel_rfl, ?_⟩) hS ?_; rotate_left; focus (intro uu hu; clear hu; go_simp; try with_reducible rfl)
    try simp only [Act.put, List.getElem_toArray, List.getElem_cons_succ, List.getElem_cons_zero, List.setIfInBounds_toArray, List.set_cons_zero, List.set_cons_succ]
    refine wpAnyH_take (i := 10) (v := .int .i64 fst) rfl (by kernel_rfl) (by kernel_rfl) (by kernel_rfl) (fun _ _ _ h => h) (Or.inl ⟨by kernel_rfl, ?ld⟩) hS ?_; case ld => (intro uu hu; have l3 := hu.2.2; have ll := hu.1.lt; clear hu; go_simp)
    try simp only [Act.put, List.getElem_toArray, List.getElem_cons_succ, List.getElem_cons_zero, List.setIfInBounds_toArray, List.set_cons_zero, List.set_cons_succ]
    refine wpAnyH_take (i := 11) (v := ?_) rfl (by kernel_rfl) (by kernel_rfl) (by kernel_rfl) (fun _ _ _ h => h) (Or.inl ⟨by kernel_rfl, ?_⟩) hS ?_; rotate_left; focus (intro uu hu; clear hu; go_simp; try with_reducible rfl)
    try simp only [Act.put, List.getElem_toArray, List.getElem_cons_succ, List.getElem_cons_zero, List.setIfInBounds_toArray, List.set_cons_zero, List.set_cons_succ]
    refine wpAnyH_take (i := 12) (v := .agg #[.int .i64 1000, .string ⟨#[]⟩, .bool false, .bool false, .int .i64 1000, .string ⟨#[]⟩, .bool false, .bool false, .int .i64 0, .int .i64 0]) rfl (by kernel_rfl) (by kernel_rfl) (by kernel_rfl) (fun _ _ _ h => h) (Or.inl ⟨by kernel_rfl, ?ld⟩) hS ?_; case ld => (intro uu hu; have l0 := RowIs.cell (j := 0) hu.2.1 rfl; have l1 := RowIs.cell (j := 1) hu.2.1 rfl; have l2 := RowIs.cell (j := 2) hu.2.1 rfl; have l3 := RowIs.cell (j := 3) hu.2.1 rfl; have l4 := RowIs.cell (j := 4) hu.2.1 rfl; have l5 := RowIs.cell (j := 5) hu.2.1 rfl; have l6 := RowIs.cell (j := 6) hu.2.1 rfl; have l7 := RowIs.cell (j := 7) hu.2.1 rfl; have l8 := RowIs.cell (j := 8) hu.2.1 rfl; have l9 := RowIs.cell (j := 9) hu.2.1 rfl; have ll := hu.2.1.lt; clear hu; go_simp)
    try simp only [Act.put, List.getElem_toArray, List.getElem_cons_succ, List.getElem_cons_zero, List.setIfInBounds_toArray, List.set_cons_zero, List.set_cons_succ]
    refine wpAnyH_take (i := 13) (v := ?_) rfl (by kernel_rfl) (by kernel_rfl) (by kernel_rfl) (fun _ _ _ h => h) (Or.inl ⟨by kernel_rfl, ?_⟩) hS ?_; rotate_left; focus (intro uu hu; clear hu; go_simp; try with_reducible rfl)
    try simp only [Act.put, List.getElem_toArray, List.getElem_cons_succ, List.getElem_cons_zero, List.setIfInBounds_toArray, List.set_cons_zero, List.set_cons_succ]
    refine wpAnyH_ready (rs := [4, 14]) (by kernel_rfl) (by simp) ?_
    refine (AllReadyH.cons rfl (fun K hK => ?_) (AllReadyH.cons rfl (fun K hK => ?_) AllReadyH.nil))
    · skip
      rw [if_pos (by kernel_rfl)]
      have x10 := HX10.out
      have xl := HH.out.c.lt
      go_simp
      refine hK.out _ _ hS (fun hS => ?_)
      clear hK K x10 xl
      try simp only [Act.put, List.getElem_toArray, List.getElem_cons_succ, List.getElem_cons_zero, List.setIfInBounds_toArray, List.set_cons_zero, List.set_cons_succ]
      refine wpAnyH_ready (rs := [14]) (by kernel_rfl) (by simp) ?_
      refine (AllReadyH.cons rfl (fun K hK => ?_) AllReadyH.nil)
      rw [if_pos (by kernel_rfl)]
      go_simp
      obtain ⟨u1, hu1⟩ : ∃ u, u0.alloc (.cells #[.int .i64 id, .int .i64 1000, .int .i64 fst, Value.slice la l.length lp, .int .i64 1000, .string ⟨#[]⟩, .bool false, .bool false, .int .i64 1000, .string ⟨#[]⟩, .bool false, .bool false, .int .i64 0, .int .i64 0, .bool false] 89) = u := ⟨_, rfl⟩
      have hbu1 : Below u0.heap.size u0 u1 := by rw [← hu1]; exact (Below.refl _ _).alloc (Nat.le_refl _) _
      have HRX : Hid (Reads u1 (.slice (some ⟨u0.heap.size, 0, none⟩) 1 1) 1 15 [.int .i64 id, .int .i64 1000, .int .i64 fst, Value.slice la l.length lp, .int .i64 1000, .string ⟨#[]⟩, .bool false, .bool false, .int .i64 1000, .string ⟨#[]⟩, .bool false, .bool false, .int .i64 0, .int .i64 0, .bool false]) := by show Reads _ _ _ _ _; rw [← hu1]; exact reads_of_owns (owns_lit u0 89 15 1 #[.int .i64 id, .int .i64 1000, .int .i64 fst, Value.slice la l.length lp, .int .i64 1000, .string ⟨#[]⟩, .bool false, .bool false, .int .i64 1000, .string ⟨#[]⟩, .bool false, .bool false, .int .i64 0, .int .i64 0, .bool false] rfl (by omega))
      have hgl2 := HH.out.c.lt
      replace HX10 := hide ((hbu1.cell (p := ⟨g, 10, none⟩) HH.out.c.lt).trans HX10.out)
      replace HH := hide (HH.out.new hbu1)
      replace HO1 := hide (owns_new HO1.out hbu1)
      rw [hu1]
      refine hK.out _ _ ⟨hS.1.new hbu1, hS.2.1.new hbu1, (hbu1.cell (p := ⟨g, 9, none⟩) hgl2).trans hS.2.2⟩ (fun hS => ?_)
      clear hu1 hbu1 hgl2 hK K
      try simp only [Act.put, List.getElem_toArray, List.getElem_cons_succ, List.getElem_cons_zero, List.setIfInBounds_toArray, List.set_cons_zero, List.set_cons_succ]
      refine wpAnyH_ready (rs := [15]) (by kernel_rfl) (by simp) ?_
      refine (AllReadyH.cons rfl (fun K hK => ?_) AllReadyH.nil)
      obtain ⟨xs, hown, hbk, hgrow⟩ := HH.out.c.growAt HX10.out
      have HGW := hide hgrow
      have HBK := hide hbk
      clear hgrow hbk
      refine step_app _ (by rfl) _ _ 41 (by rfl) 89 (.agg #[.int .i64 0, .int .i64 0, .int .i64 0, .slice none 0 0, .int .i64 0, .string ⟨#[]⟩, .bool false, .bool false, .int .i64 0, .string ⟨#[]⟩, .bool false, .bool false, .int .i64 0, .int .i64 0, .bool false]) 15 136 Tryz.underlying41 (by kernel_rfl) rfl (by decide) 0 _ d2.flows.length xs (by rfl) hown _ 1 [.int .i64 id, .int .i64 1000, .int .i64 fst, Value.slice la l.length lp, .int .i64 1000, .string ⟨#[]⟩, .bool false, .bool false, .int .i64 1000, .string ⟨#[]⟩, .bool false, .bool false, .int .i64 0, .int .i64 0, .bool false] (by rfl) HRX.out (by intro y hy; simp at hy; rcases hy with rfl | rfl | rfl | rfl | rfl | rfl | rfl | rfl | rfl | rfl | rfl | rfl | rfl | rfl | rfl <;> rfl) (by omega) (by decide) (Nat.zero_le _) ?_
      intro ad8 cp8 u2 hown8 hg8 hat8
      obtain ⟨by8, hc8, hsub8⟩ := HGW.out u2 _ (newFl id fst l) (Value.slice la l.length lp) (Value.slice la l.length lp).ownBlock.toList ⟨(Value.slice la l.length lp), _, by rw [HNF.out], by rw [HNF.out]; exact Nat.zero_le _, by rw [HNF.out]; exact Nat.zero_le _, by rw [HNF.out]; exact fv_owr (owns_base HO1.out (fun q _ => Nat.zero_le q)) HLF.out, rfl⟩ (opt_nodup _) (fun q hq => (HQ.out q (by cases hv : (Value.slice la l.length lp).ownBlock <;> simp [hv] at hq ⊢; exact hq.symm)).2) (by rw [show flcs (newFl id fst l) (Value.slice la l.length lp) = [.int .i64 id, .int .i64 1000, .int .i64 fst, Value.slice la l.length lp, .int .i64 1000, .string ⟨#[]⟩, .bool false, .bool false, .int .i64 1000, .string ⟨#[]⟩, .bool false, .bool false, .int .i64 0, .int .i64 0, .bool false] by rw [HNF.out]]; exact hown8) hg8 hat8
      have hr8 := hS.1.kept (hg8.block _ hS.1.lt (fun e => HH.out.x (List.mem_cons_of_mem _ (HBK.out _ e.symm))))
      have hu8 := hS.2.1.kept (hg8.block _ hS.2.1.lt (fun e => HGU.out (List.mem_cons_of_mem _ (HBK.out _ e.symm))))
      have hg9 : u2.cell? ⟨g, 9, none⟩ = some (.int .i64 fst) := (World.cell?_of_block (hg8.block g HH.out.c.lt (fun e => HH.out.c.ng (HBK.out _ e.symm)))).trans hS.2.2
      have hrg8 : ∃ ve vi vo vf, RowIs u2 g 43 (cncs d2 ve vi vo vf) := by
        obtain ⟨⟨ve, vi, vo, vf, hrow, _⟩, _⟩ := HH.out.c
        exact ⟨ve, vi, vo, vf, hrow.kept (hg8.block g HH.out.c.lt (fun e => HH.out.c.ng (HBK.out _ e.symm)))⟩
      have ht8 : TurnB (g :: bz) u1 (u2.setCell ⟨g, 10, none⟩ (.slice ad8 (d2.flows.length + 1) cp8)) := by
        have t0 : TurnB (g :: bz) u1 u2 := ⟨hg8.os, hg8.tape, hg8.output, hg8.size, fun k hk hn => hg8.block k hk (fun e => hn (List.mem_cons_of_mem _ (HBK.out _ e.symm)))⟩
        exact t0.set _ _ (by simp)
      have hlt8 := HH.out.lt
      have HFIN := hide (HH.out.turn' hc8 ht8 (fun q hq => by
        rcases hsub8 q hq with e | e | e
        · exact .inl e
        · exact .inr (HQ.out q (by cases hv : (Value.slice la l.length lp).ownBlock <;> simp [hv] at e ⊢; exact e.symm)).1
        · exact .inr (by omega)))
      obtain ⟨ve8, vi8, vo8, vf8, hrow8⟩ := hrg8
      obtain ⟨⟨_, _, _, _, hrow9, _⟩, _⟩ := hc8
      have hc9 := RowIs.cell (j := 9) hrow9 rfl
      dsimp only at hc9
      rw [hfst] at hc9
      refine hK.out _ _ ⟨hr8, hu8, hg9⟩ (fun hS => ?_)
      clear hK K hown hown8 hg8 hat8 hsub8 ht8 hr8 hu8 hg9 hlt8 hrow9 HGW
      try simp only [Act.put, List.getElem_toArray, List.getElem_cons_succ, List.getElem_cons_zero, List.setIfInBounds_toArray, List.set_cons_zero, List.set_cons_succ]
      refine wpAnyH_take (i := 16) (v := ?_) rfl (by kernel_rfl) (by kernel_rfl) (by kernel_rfl) (fun _ _ _ h => h) (Or.inl ⟨by kernel_rfl, ?_⟩) hS ?_; rotate_left; focus (intro uu hu; clear hu; go_simp; try with_reducible rfl)
      try simp only [Act.put, List.getElem_toArray, List.getElem_cons_succ, List.getElem_cons_zero, List.setIfInBounds_toArray, List.set_cons_zero, List.set_cons_succ]
      refine wpAnyH_take (i := 17) (v := ?_) rfl (by kernel_rfl) (by kernel_rfl) (by kernel_rfl) (fun _ _ _ h => h) (Or.inl ⟨by kernel_rfl, ?_⟩) hS ?_; rotate_left; focus (intro uu hu; clear hu; go_simp; try with_reducible rfl)
      try simp only [Act.put, List.getElem_toArray, List.getElem_cons_succ, List.getElem_cons_zero, List.setIfInBounds_toArray, List.set_cons_zero, List.set_cons_succ]
      refine wpAnyH_ready (rs := [18]) (by kernel_rfl) (by simp) ?_
      refine (AllReadyH.cons rfl (fun K hK => ?_) AllReadyH.nil)
      rw [if_pos (by kernel_rfl)]
      have x10 := RowIs.cell (j := 10) hrow8 rfl
      have xf := RowIs.frozen hrow8 10
      have xl := hrow8.lt
      go_simp
      refine hK.out _ _ ⟨hS.1.far _ _ (fun e => HH.out.x (by simp [show g = w.heap.size from e])), hS.2.1.far _ _ (fun e => HGU.out (by simp [show g = gu from e])), hc9⟩ (fun hS => ?_)
      clear hK K x10 xf xl hrow8 hc9
      try simp only [Act.put, List.getElem_toArray, List.getElem_cons_succ, List.getElem_cons_zero, List.setIfInBounds_toArray, List.set_cons_zero, List.set_cons_succ]
      refine wpAnyH_done (by kernel_rfl) ?_ _
      go_wp2_with fail
      go_meet
      exact ⟨_, by8, rfl, HFIN⟩
    · skip
      rw [if_pos (by kernel_rfl)]
      go_simp
      obtain ⟨u3, hu3⟩ : ∃ u, u0.alloc (.cells #[.int .i64 id, .int .i64 1000, .int .i64 fst, Value.slice la l.length lp, .int .i64 1000, .string ⟨#[]⟩, .bool false, .bool false, .int .i64 1000, .string ⟨#[]⟩, .bool false, .bool false, .int .i64 0, .int .i64 0, .bool false] 89) = u := ⟨_, rfl⟩
      have hbu3 : Below u0.heap.size u0 u3 := by rw [← hu3]; exact (Below.refl _ _).alloc (Nat.le_refl _) _
      have HRX : Hid (Reads u3 (.slice (some ⟨u0.heap.size, 0, none⟩) 1 1) 1 15 [.int .i64 id, .int .i64 1000, .int .i64 fst, Value.slice la l.length lp, .int .i64 1000, .string ⟨#[]⟩, .bool false, .bool false, .int .i64 1000, .string ⟨#[]⟩, .bool false, .bool false, .int .i64 0, .int .i64 0, .bool false]) := by show Reads _ _ _ _ _; rw [← hu3]; exact reads_of_owns (owns_lit u0 89 15 1 #[.int .i64 id, .int .i64 1000, .int .i64 fst, Value.slice la l.length lp, .int .i64 1000, .string ⟨#[]⟩, .bool false, .bool false, .int .i64 1000, .string ⟨#[]⟩, .bool false, .bool false, .int .i64 0, .int .i64 0, .bool false] rfl (by omega))
      have hgl2 := HH.out.c.lt
      replace HX10 := hide ((hbu3.cell (p := ⟨g, 10, none⟩) HH.out.c.lt).trans HX10.out)
      replace HH := hide (HH.out.new hbu3)
      replace HO1 := hide (owns_new HO1.out hbu3)
      rw [hu3]
      refine hK.out _ _ ⟨hS.1.new hbu3, hS.2.1.new hbu3, (hbu3.cell (p := ⟨g, 9, none⟩) hgl2).trans hS.2.2⟩ (fun hS => ?_)
      clear hu3 hbu3 hgl2 hK K
      try simp only [Act.put, List.getElem_toArray, List.getElem_cons_succ, List.getElem_cons_zero, List.setIfInBounds_toArray, List.set_cons_zero, List.set_cons_succ]
      refine wpAnyH_ready (rs := [4]) (by kernel_rfl) (by simp) ?_
      refine (AllReadyH.cons rfl (fun K hK => ?_) AllReadyH.nil)
      rw [if_pos (by kernel_rfl)]
      have x10 := HX10.out
      have xl := HH.out.c.lt
      go_simp
      refine hK.out _ _ hS (fun hS => ?_)
      clear hK K x10 xl
      try simp only [Act.put, List.getElem_toArray, List.getElem_cons_succ, List.getElem_cons_zero, List.setIfInBounds_toArray, List.set_cons_zero, List.set_cons_succ]
      refine wpAnyH_ready (rs := [15]) (by kernel_rfl) (by simp) ?_
      refine (AllReadyH.cons rfl (fun K hK => ?_) AllReadyH.nil)
      obtain ⟨xs, hown, hbk, hgrow⟩ := HH.out.c.growAt HX10.out
      have HGW := hide hgrow
      have HBK := hide hbk
      clear hgrow hbk
      refine step_app _ (by rfl) _ _ 41 (by rfl) 89 (.agg #[.int .i64 0, .int .i64 0, .int .i64 0, .slice none 0 0, .int .i64 0, .string ⟨#[]⟩, .bool false, .bool false, .int .i64 0, .string ⟨#[]⟩, .bool false, .bool false, .int .i64 0, .int .i64 0, .bool false]) 15 136 Tryz.underlying41 (by kernel_rfl) rfl (by decide) 0 _ d2.flows.length xs (by rfl) hown _ 1 [.int .i64 id, .int .i64 1000, .int .i64 fst, Value.slice la l.length lp, .int .i64 1000, .string ⟨#[]⟩, .bool false, .bool false, .int .i64 1000, .string ⟨#[]⟩, .bool false, .bool false, .int .i64 0, .int .i64 0, .bool false] (by rfl) HRX.out (by intro y hy; simp at hy; rcases hy with rfl | rfl | rfl | rfl | rfl | rfl | rfl | rfl | rfl | rfl | rfl | rfl | rfl | rfl | rfl <;> rfl) (by omega) (by decide) (Nat.zero_le _) ?_
      intro ad8 cp8 u4 hown8 hg8 hat8
      obtain ⟨by8, hc8, hsub8⟩ := HGW.out u4 _ (newFl id fst l) (Value.slice la l.length lp) (Value.slice la l.length lp).ownBlock.toList ⟨(Value.slice la l.length lp), _, by rw [HNF.out], by rw [HNF.out]; exact Nat.zero_le _, by rw [HNF.out]; exact Nat.zero_le _, by rw [HNF.out]; exact fv_owr (owns_base HO1.out (fun q _ => Nat.zero_le q)) HLF.out, rfl⟩ (opt_nodup _) (fun q hq => (HQ.out q (by cases hv : (Value.slice la l.length lp).ownBlock <;> simp [hv] at hq ⊢; exact hq.symm)).2) (by rw [show flcs (newFl id fst l) (Value.slice la l.length lp) = [.int .i64 id, .int .i64 1000, .int .i64 fst, Value.slice la l.length lp, .int .i64 1000, .string ⟨#[]⟩, .bool false, .bool false, .int .i64 1000, .string ⟨#[]⟩, .bool false, .bool false, .int .i64 0, .int .i64 0, .bool false] by rw [HNF.out]]; exact hown8) hg8 hat8
      have hr8 := hS.1.kept (hg8.block _ hS.1.lt (fun e => HH.out.x (List.mem_cons_of_mem _ (HBK.out _ e.symm))))
      have hu8 := hS.2.1.kept (hg8.block _ hS.2.1.lt (fun e => HGU.out (List.mem_cons_of_mem _ (HBK.out _ e.symm))))
      have hg9 : u4.cell? ⟨g, 9, none⟩ = some (.int .i64 fst) := (World.cell?_of_block (hg8.block g HH.out.c.lt (fun e => HH.out.c.ng (HBK.out _ e.symm)))).trans hS.2.2
      have hrg8 : ∃ ve vi vo vf, RowIs u4 g 43 (cncs d2 ve vi vo vf) := by
        obtain ⟨⟨ve, vi, vo, vf, hrow, _⟩, _⟩ := HH.out.c
        exact ⟨ve, vi, vo, vf, hrow.kept (hg8.block g HH.out.c.lt (fun e => HH.out.c.ng (HBK.out _ e.symm)))⟩
      have ht8 : TurnB (g :: bz) u3 (u4.setCell ⟨g, 10, none⟩ (.slice ad8 (d2.flows.length + 1) cp8)) := by
        have t0 : TurnB (g :: bz) u3 u4 := ⟨hg8.os, hg8.tape, hg8.output, hg8.size, fun k hk hn => hg8.block k hk (fun e => hn (List.mem_cons_of_mem _ (HBK.out _ e.symm)))⟩
        exact t0.set _ _ (by simp)
      have hlt8 := HH.out.lt
      have HFIN := hide (HH.out.turn' hc8 ht8 (fun q hq => by
        rcases hsub8 q hq with e | e | e
        · exact .inl e
        · exact .inr (HQ.out q (by cases hv : (Value.slice la l.length lp).ownBlock <;> simp [hv] at e ⊢; exact e.symm)).1
        · exact .inr (by omega)))
      obtain ⟨ve8, vi8, vo8, vf8, hrow8⟩ := hrg8
      obtain ⟨⟨_, _, _, _, hrow9, _⟩, _⟩ := hc8
      have hc9 := RowIs.cell (j := 9) hrow9 rfl
      dsimp only at hc9
      rw [hfst] at hc9
      refine hK.out _ _ ⟨hr8, hu8, hg9⟩ (fun hS => ?_)
      clear hK K hown hown8 hg8 hat8 hsub8 ht8 hr8 hu8 hg9 hlt8 hrow9 HGW
      try simp only [Act.put, List.getElem_toArray, List.getElem_cons_succ, List.getElem_cons_zero, List.setIfInBounds_toArray, List.set_cons_zero, List.set_cons_succ]
      refine wpAnyH_take (i := 16) (v := ?_) rfl (by kernel_rfl) (by kernel_rfl) (by kernel_rfl) (fun _ _ _ h => h) (Or.inl ⟨by kernel_rfl, ?_⟩) hS ?_; rotate_left; focus (intro uu hu; clear hu; go_simp; try with_reducible rfl)
      try simp only [Act.put, List.getElem_toArray, List.getElem_cons_succ, List.getElem_cons_zero, List.setIfInBounds_toArray, List.set_cons_zero, List.set_cons_succ]
      refine wpAnyH_take (i := 17) (v := ?_) rfl (by kernel_rfl) (by kernel_rfl) (by kernel_rfl) (fun _ _ _ h => h) (Or.inl ⟨by kernel_rfl, ?_⟩) hS ?_; rotate_left; focus (intro uu hu; clear hu; go_simp; try with_reducible rfl)
      try simp only [Act.put, List.getElem_toArray, List.getElem_cons_succ, List.getElem_cons_zero, List.setIfInBounds_toArray, List.set_cons_zero, List.set_cons_succ]
      refine wpAnyH_ready (rs := [18]) (by kernel_rfl) (by simp) ?_
      refine (AllReadyH.cons rfl (fun K hK => ?_) AllReadyH.nil)
      rw [if_pos (by kernel_rfl)]
      have x10 := RowIs.cell (j := 10) hrow8 rfl
      have xf := RowIs.frozen hrow8 10
      have xl := hrow8.lt
      go_simp
      refine hK.out _ _ ⟨hS.1.far _ _ (fun e => HH.out.x (by simp [show g = w.heap.size from e])), hS.2.1.far _ _ (fun e => HGU.out (by simp [show g = gu from e])), hc9⟩ (fun hS => ?_)
      clear hK K x10 xf xl hrow8 hc9
      try simp only [Act.put, List.getElem_toArray, List.getElem_cons_succ, List.getElem_cons_zero, List.setIfInBounds_toArray, List.set_cons_zero, List.set_cons_succ]
      refine wpAnyH_done (by kernel_rfl) ?_ _
      go_wp2_with fail
      go_meet
      exact ⟨_, by8, rfl, HFIN⟩
  obtain ⟨wd, by_, hwd, HH2⟩ := hcut
  subst hwd
  clear HH HRU HGU HO1 HQ
  have HH := HH2
  clear HH2
  obtain ⟨x, hx⟩ : ∃ x, newFl id fst l = x := ⟨_, rfl⟩
  rw [hx] at HH HW HML2 HML
  clear hx HNF
  unfold headIn at HW
  obtain ⟨⟨qe, qi, qo, qf, hrow, hcw⟩, _⟩ := HH.out.c
  have x11 := RowIs.cell (j := 11) hrow rfl
  have xl := hrow.lt
  dsimp only at x11
  clear hrow hcw
  cases haw : d2.away
  rotate_left
  · rw [haw] at x11
    rw [if_pos haw] at HW
    have r2 := HH.out.r.cell (j := 2) rfl
    have rl := HH.out.r.lt
    dsimp only at r2
    go_wp2_with fail
    refine (HH.out.break id 5 _ HML2.out (by decide) (by decide)).mono ?_
    rintro x w6 ⟨bw, rfl, hh6, _, _⟩
    dsimp only [frv]
    have HH6 := hide hh6
    clear hh6 r2 rl x11 xl
    go_wp2_with fail
    go_ret
    rw [HW.out]
    exact HH6.out.done (StepC.one (breakD _ id 5).2 HH6.out.c)
  rw [haw] at x11
  rw [if_neg (by rw [haw]; decide)] at HW
  have r1 := HH.out.r.cell (j := 1) rfl
  have rl := HH.out.r.lt
  dsimp only at r1
  by_cases hfl : fl = 1
  rotate_left
  · rw [if_neg hfl] at HW
    have hflb : (fl == 1) = false := by simpa using hfl
    go_wp2_with fail
    go_ret
    rw [HW.out]
    exact HH.out.done (StepC.nothing HH.out.c)
  rw [if_pos hfl] at HW
  subst hfl
  go_wp2_with fail
  clear x11 xl r1 rl
  go_upto_region 20 with fail
  have hD : Below wd.heap.size wd (World.drew wd) := (Below.refl _ _).drew
  replace HH := hide (HH.out.new hD)

  clear hD
  refine wp_region_held_drew (S := fun u => RowIs u w.heap.size 48 [.int .i64 fk, .int .i64 1, .int .i64 id, .string b]) (by kernel_rfl) HH.out.r (fun hS => ?_)
  generalize World.drew wd = v20 at *
  refine wpAnyH_take (i := 0) (v := ?_) rfl (by kernel_rfl) (by kernel_rfl) (by kernel_rfl) (fun _ _ _ h => h) (Or.inl ⟨by rfl, ?_⟩) hS ?_; rotate_left; focus (intro w hw; clear hw; go_simp; try with_reducible rfl)
  refine wpAnyH_take (i := 1) (v := ?_) rfl (by kernel_rfl) (by kernel_rfl) (by kernel_rfl) (fun _ _ _ h => h) (Or.inl ⟨by rfl, ?_⟩) hS ?_; rotate_left; focus (intro w hw; clear hw; go_simp; try with_reducible rfl)
  refine wpAnyH_take (i := 2) (v := ?_) rfl (by kernel_rfl) (by kernel_rfl) (by kernel_rfl) (fun _ _ _ h => h) (Or.inl ⟨by rfl, ?_⟩) hS ?_; rotate_left; focus (intro w hw; clear hw; go_simp; try with_reducible rfl)
  refine wpAnyH_take (i := 3) (v := ?_) rfl (by kernel_rfl) (by kernel_rfl) (by kernel_rfl) (fun _ _ _ h => h) (Or.inl ⟨by rfl, ?_⟩) hS ?_; rotate_left; focus (intro w hw; clear hw; go_simp; try with_reducible rfl)
  refine wpAnyH_take (i := 4) (v := .int .i64 id) rfl (by kernel_rfl) (by kernel_rfl) (by kernel_rfl) (fun _ _ _ h => h) (Or.inl ⟨by kernel_rfl, ?ld⟩) hS ?_; case ld => (intro uu hu; have z2 := RowIs.cell (j := 2) hu rfl; have z8 := hu.lt; clear hu; go_simp)
  try simp only [Act.put, List.getElem_toArray, List.getElem_cons_succ, List.getElem_cons_zero, List.setIfInBounds_toArray, List.set_cons_zero, List.set_cons_succ]
  refine wpAnyH_ready (rs := [5]) (by kernel_rfl) (by simp) ?_; refine AllReadyH.cons rfl (fun K hK => ?_) AllReadyH.nil; go_simp
  refine (HH.out.hap id 2).mono ?_
  rintro x w7 ⟨bw, rfl, hh7⟩
  replace HH := hide hh7
  clear hh7
  refine hK.out _ _ HH.out.r (fun hS => ?_)
  clear hK K
  try simp only [Act.put, List.getElem_toArray, List.getElem_cons_succ, List.getElem_cons_zero, List.setIfInBounds_toArray, List.set_cons_zero, List.set_cons_succ]
  refine wpAnyH_done (by kernel_rfl) ?_ _
  clear hS
  obtain ⟨n, hn⟩ : ∃ n, d2.flows.length = n := ⟨_, rfl⟩
  obtain ⟨d3, hd3⟩ : ∃ y, hapD { d2 with flows := d2.flows ++ [x] } id 2 = y := ⟨_, rfl⟩
  have hf3 : d3.flows = d2.flows ++ [x] := by rw [← hd3]; rfl
  have hl3 : d3.flows.length = n + 1 := by rw [hf3, List.length_append, hn]; rfl
  rw [hd3] at HH HW
  have hn3 : n < d3.flows.length := by omega
  have hx3 : d3.flows[n] = x := by simp only [hf3]; rw [List.getElem_append_right (by omega)]; simp [hn]
  have hw3 : d3.flows.set n (endUp d3.flows[n]) = d2.flows ++ [endUp x] := by rw [hx3, hf3, List.set_append_right _ _ (by omega)]; simp [hn]
  rw [← hw3] at HW
  have hn60 : n ≤ 60 := by omega
  have HHF := hide hl3
  have e1 : IntKind.i64.wrap ((d3.flows.length : Int) - 1) = (n : Int) := by rw [IntKind.wrap_i64]; omega
  have hnI : (n : Int) < d3.flows.length := by omega
  clear hd3 hf3 hx3 hw3 hl3 hn HF2 HR2 HG2 HML HML2 HM1
  have hD : Below w7.heap.size w7 (World.drew w7) := (Below.refl _ _).drew
  replace HH := hide (HH.out.new hD)
  clear hD
  obtain ⟨gf, ve, vi, vo, cap, hrow, hgm, hgfl, hgg, c6, cf, hc5, ht5⟩ := HH.out.c.flEndUp n hn3
  have x10 := RowIs.cell (j := 10) hrow rfl
  have xl := hrow.lt
  have HH5 := hide (HH.out.turn hc5 ht5 (NewB.refl _ _))
  clear hrow hc5 ht5 HH
  go_wp2_with fail
  refine wp_region_any (by kernel_rfl) ?_; change wpAny _ _ _ _ _ _ _ (World.drew _)
  generalize World.drew w7 = u7 at *
  refine wpAny_take (i := 0) (v := ?_) rfl (by kernel_rfl) (by kernel_rfl) (by kernel_rfl) (fun _ _ _ h => h) (Or.inl ⟨by rfl, ?_⟩) ?_; rotate_left; focus (intro w; go_simp; try with_reducible rfl)
  refine wpAny_take (i := 1) (v := ?_) rfl (by kernel_rfl) (by kernel_rfl) (by kernel_rfl) (fun _ _ _ h => h) (Or.inl ⟨by rfl, ?_⟩) ?_; rotate_left; focus (intro w; go_simp; try with_reducible rfl)
  refine wpAny_take (i := 2) (v := ?_) rfl (by kernel_rfl) (by kernel_rfl) (by kernel_rfl) (fun _ _ _ h => h) (Or.inl ⟨by rfl, ?_⟩) ?_; rotate_left; focus (intro w; go_simp; try with_reducible rfl)
  refine wpAny_take (i := 4) (v := ?_) rfl (by kernel_rfl) (by kernel_rfl) (by kernel_rfl) (fun _ _ _ h => h) (Or.inl ⟨by rfl, ?_⟩) ?_; rotate_left; focus (intro w; go_simp; try with_reducible rfl)
  refine wpAny_take (i := 5) (v := ?_) rfl (by kernel_rfl) (by kernel_rfl) (by kernel_rfl) (fun _ _ _ h => h) (Or.inl ⟨by rfl, ?_⟩) ?_; rotate_left; focus (intro w; go_simp; try with_reducible rfl)
  refine wpAny_take (i := 6) (v := ?_) rfl (by kernel_rfl) (by kernel_rfl) (by kernel_rfl) (fun _ _ _ h => h) (Or.inl ⟨by rfl, ?_⟩) ?_; rotate_left; focus (intro w; go_simp; try with_reducible rfl)
  refine wpAny_ready (rs := [3, 7]) (by kernel_rfl) (by simp) ?_; refine AllReady.cons rfl (fun K hK => ?_) (AllReady.cons rfl (fun K hK => ?_) AllReady.nil)
  · go_simp; refine hK _ _ ?_; clear hK K
    refine wpAny_ready (rs := [7]) (by kernel_rfl) (by simp) ?_; refine AllReady.cons rfl (fun K hK => ?_) AllReady.nil
    go_simp; refine hK _ _ ?_; clear hK K
    refine wpAny_take (i := 8) (v := ?_) rfl (by kernel_rfl) (by kernel_rfl) (by kernel_rfl) (fun _ _ _ h => h) (Or.inl ⟨by rfl, ?_⟩) ?_; rotate_left; focus (intro w; go_simp; try with_reducible rfl)
    refine wpAny_take (i := 9) (v := ?_) rfl (by kernel_rfl) (by kernel_rfl) (by kernel_rfl) (fun _ _ _ h => h) (Or.inl ⟨by rfl, ?_⟩) ?_; rotate_left; focus (intro w; go_simp; try with_reducible rfl)
    refine wpAny_take (i := 10) (v := ?_) rfl (by kernel_rfl) (by kernel_rfl) (by kernel_rfl) (fun _ _ _ h => h) (Or.inl ⟨by rfl, ?_⟩) ?_; rotate_left; focus (intro w; go_simp; try with_reducible rfl)
    refine wpAny_take (i := 11) (v := ?_) rfl (by kernel_rfl) (by kernel_rfl) (by kernel_rfl) (fun _ _ _ h => h) (Or.inl ⟨by rfl, ?_⟩) ?_; rotate_left; focus (intro w; go_simp; try with_reducible rfl)
    refine wpAny_take (i := 12) (v := ?_) rfl (by kernel_rfl) (by kernel_rfl) (by kernel_rfl) (fun _ _ _ h => h) (Or.inl ⟨by rfl, ?_⟩) ?_; rotate_left; focus (intro w; go_simp; try with_reducible rfl)
    refine wpAny_take (i := 13) (v := ?_) rfl (by kernel_rfl) (by kernel_rfl) (by kernel_rfl) (fun _ _ _ h => h) (Or.inl ⟨by rfl, ?_⟩) ?_; rotate_left; focus (intro w; go_simp; try with_reducible rfl)
    refine wpAny_ready (rs := [14]) (by kernel_rfl) (by simp) ?_; refine AllReady.cons rfl (fun K hK => ?_) AllReady.nil
    go_simp; refine hK _ _ ?_; clear hK K
    refine wpAny_done (by kernel_rfl) ?_ _
    go_wp2_with fail
    go_ret
    rw [HW.out]
    exact HH5.out.done (StepC.nothing HH5.out.c)
  · go_simp; refine hK _ _ ?_; clear hK K
    refine wpAny_take (i := 8) (v := ?_) rfl (by kernel_rfl) (by kernel_rfl) (by kernel_rfl) (fun _ _ _ h => h) (Or.inl ⟨by rfl, ?_⟩) ?_; rotate_left; focus (intro w; go_simp; try with_reducible rfl)
    refine wpAny_take (i := 9) (v := ?_) rfl (by kernel_rfl) (by kernel_rfl) (by kernel_rfl) (fun _ _ _ h => h) (Or.inl ⟨by rfl, ?_⟩) ?_; rotate_left; focus (intro w; go_simp; try with_reducible rfl)
    refine wpAny_ready (rs := [3]) (by kernel_rfl) (by simp) ?_; refine AllReady.cons rfl (fun K hK => ?_) AllReady.nil
    go_simp; refine hK _ _ ?_; clear hK K
    refine wpAny_take (i := 10) (v := ?_) rfl (by kernel_rfl) (by kernel_rfl) (by kernel_rfl) (fun _ _ _ h => h) (Or.inl ⟨by rfl, ?_⟩) ?_; rotate_left; focus (intro w; go_simp; try with_reducible rfl)
    refine wpAny_take (i := 11) (v := ?_) rfl (by kernel_rfl) (by kernel_rfl) (by kernel_rfl) (fun _ _ _ h => h) (Or.inl ⟨by rfl, ?_⟩) ?_; rotate_left; focus (intro w; go_simp; try with_reducible rfl)
    refine wpAny_take (i := 12) (v := ?_) rfl (by kernel_rfl) (by kernel_rfl) (by kernel_rfl) (fun _ _ _ h => h) (Or.inl ⟨by rfl, ?_⟩) ?_; rotate_left; focus (intro w; go_simp; try with_reducible rfl)
    refine wpAny_take (i := 13) (v := ?_) rfl (by kernel_rfl) (by kernel_rfl) (by kernel_rfl) (fun _ _ _ h => h) (Or.inl ⟨by rfl, ?_⟩) ?_; rotate_left; focus (intro w; go_simp; try with_reducible rfl)
    refine wpAny_ready (rs := [14]) (by kernel_rfl) (by simp) ?_; refine AllReady.cons rfl (fun K hK => ?_) AllReady.nil
    go_simp; refine hK _ _ ?_; clear hK K
    refine wpAny_done (by kernel_rfl) ?_ _
    go_wp2_with fail
    go_ret
    rw [HW.out]
    exact HH5.out.done (StepC.nothing HH5.out.c)
end Go.Proofs.YtllaeakeaabiaaaGreat
/- The program's link of a Conn. -/
namespace Go.Proofs.YtllaeakeaabiaaaGreat
open Go.RowKit
set_option maxRecDepth 100000
set_option linter.unusedSimpArgs false
set_option linter.unusedVariables false
abbrev lkcs0 (d : CnD) (ve vi vo vf tv : Value) : List Value := [.int .i64 d.reg.lim, .int .i64 d.reg.top, ve, .int .i64 d.inr, vi, .int .i64 d.outr, vo, .int .i64 d.get, .int .i64 d.give, .int .i64 d.first, vf, .bool d.away, .bool d.dead, tv]
set_option maxHeartbeats 8000000 in
theorem implLinkNo (d : CnD) (ve vi vo vf : Value) (w : World) (hv : CnRd w d ve vi vo vf) (hok : okCn d = false) :
    Calls Tryz.prog 29 #[cnv d ve vi vo vf] w fun x w' => x = .returned (.tuple #[.agg #[.int .i64 0, .int .i64 0, .slice none 0 0, .int .i64 0, .slice none 0 0, .int .i64 0, .slice none 0 0, .int .i64 0, .int .i64 0, .int .i64 0, .slice none 0 0, .bool false, .bool false, .slice none 0 0], .bool false]) ∧ Below w.heap.size w w' := by
  have HV := hide hv
  obtain ⟨ae, pe, rfl, _, _⟩ := hv.e.form
  obtain ⟨ai, pi, rfl, _, _⟩ := hv.i.form
  obtain ⟨ao, po, rfl, _, _⟩ := hv.o.form
  obtain ⟨af, pf, rfl, _, _⟩ := hv.f.form
  clear hv
  have hbA : Below w.heap.size w ((w.alloc (.cells #[.int .i64 d.reg.lim, .int .i64 d.reg.top, .slice ae d.reg.es.length pe, .int .i64 d.inr, .slice ai d.inT.length pi, .int .i64 d.outr, .slice ao d.outT.length po, .int .i64 d.get, .int .i64 d.give, .int .i64 d.first, .slice af d.flows.length pf, .bool d.away, .bool d.dead] 43)).alloc (.cells #[.int .i64 0, .int .i64 0, .slice none 0 0, .int .i64 0, .slice none 0 0, .int .i64 0, .slice none 0 0, .int .i64 0, .int .i64 0, .int .i64 0, .slice none 0 0, .bool false, .bool false, .slice none 0 0] 69)) := ((Below.refl _ _).alloc (Nat.le_refl _) _).alloc (by simp) _
  have RA := (rowIs_new w 43 [.int .i64 d.reg.lim, .int .i64 d.reg.top, .slice ae d.reg.es.length pe, .int .i64 d.inr, .slice ai d.inT.length pi, .int .i64 d.outr, .slice ao d.outT.length po, .int .i64 d.get, .int .i64 d.give, .int .i64 d.first, .slice af d.flows.length pf, .bool d.away, .bool d.dead]).alloc (.cells #[.int .i64 0, .int .i64 0, .slice none 0 0, .int .i64 0, .slice none 0 0, .int .i64 0, .slice none 0 0, .int .i64 0, .int .i64 0, .int .i64 0, .slice none 0 0, .bool false, .bool false, .slice none 0 0] 69)
  have RZ := rowIs_new (w.alloc (.cells #[.int .i64 d.reg.lim, .int .i64 d.reg.top, .slice ae d.reg.es.length pe, .int .i64 d.inr, .slice ai d.inT.length pi, .int .i64 d.outr, .slice ao d.outT.length po, .int .i64 d.get, .int .i64 d.give, .int .i64 d.first, .slice af d.flows.length pf, .bool d.away, .bool d.dead] 43)) 69 [.int .i64 0, .int .i64 0, .slice none 0 0, .int .i64 0, .slice none 0 0, .int .i64 0, .slice none 0 0, .int .i64 0, .int .i64 0, .int .i64 0, .slice none 0 0, .bool false, .bool false, .slice none 0 0]
  have hsz : (w.alloc (.cells #[.int .i64 d.reg.lim, .int .i64 d.reg.top, .slice ae d.reg.es.length pe, .int .i64 d.inr, .slice ai d.inT.length pi, .int .i64 d.outr, .slice ao d.outT.length po, .int .i64 d.get, .int .i64 d.give, .int .i64 d.first, .slice af d.flows.length pf, .bool d.away, .bool d.dead] 43)).heap.size = w.heap.size + 1 := by simp
  rw [hsz] at RZ
  obtain ⟨V, hV⟩ : ∃ V, (w.alloc (.cells #[.int .i64 d.reg.lim, .int .i64 d.reg.top, .slice ae d.reg.es.length pe, .int .i64 d.inr, .slice ai d.inT.length pi, .int .i64 d.outr, .slice ao d.outT.length po, .int .i64 d.get, .int .i64 d.give, .int .i64 d.first, .slice af d.flows.length pf, .bool d.away, .bool d.dead] 43)).alloc (.cells #[.int .i64 0, .int .i64 0, .slice none 0 0, .int .i64 0, .slice none 0 0, .int .i64 0, .slice none 0 0, .int .i64 0, .int .i64 0, .int .i64 0, .slice none 0 0, .bool false, .bool false, .slice none 0 0] 69) = V := ⟨_, rfl⟩
  rw [hV] at hbA RA RZ
  have HB := hide hbA
  clear hsz hbA
  go_enter Tryz.func29, Tryz.ntmps29
  go_upto_region 1 with fail
  try rw [hV]
  clear hV
  go_wp2_with (refine wpList_load_row (by rfl) 43 _ (by rfl) w.heap.size (by rfl) [.int .i64 d.reg.lim, .int .i64 d.reg.top, .slice ae d.reg.es.length pe, .int .i64 d.inr, .slice ai d.inT.length pi, .int .i64 d.outr, .slice ao d.outT.length po, .int .i64 d.get, .int .i64 d.give, .int .i64 d.first, .slice af d.flows.length pf, .bool d.away, .bool d.dead] _ 43 RA Tryz.underlying43 rfl (by kernel_rfl) ?_)
  refine (implConnRight d _ _ _ _ _ (HV.out.new HB.out)).mono ?_; rw [hok]; rintro e w1 ⟨rfl, hb1⟩
  replace RZ := RZ.new hb1
  have HB1 := hide (bchain HB.out hb1)
  clear hb1
  have RZ2 := hide (rowIs_setRow (cs' := [.int .i64 0, .int .i64 0, .slice none 0 0, .int .i64 0, .slice none 0 0, .int .i64 0, .slice none 0 0, .int .i64 0, .int .i64 0, .int .i64 0, .slice none 0 0, .bool false, .bool false, .slice none 0 0]) RZ)
  have HB2 := hide (below_setRow HB1.out (show w.heap.size ≤ w.heap.size + 1 by omega) #[.int .i64 0, .int .i64 0, .slice none 0 0, .int .i64 0, .slice none 0 0, .int .i64 0, .slice none 0 0, .int .i64 0, .int .i64 0, .int .i64 0, .slice none 0 0, .bool false, .bool false, .slice none 0 0])
  go_wp2_with (refine wpList_store_row (by rfl) 69 _ _ (by rfl) (w.heap.size + 1) [.int .i64 0, .int .i64 0, .slice none 0 0, .int .i64 0, .slice none 0 0, .int .i64 0, .slice none 0 0, .int .i64 0, .int .i64 0, .int .i64 0, .slice none 0 0, .bool false, .bool false, .slice none 0 0] (by rfl) (by rfl) 69 [.int .i64 0, .int .i64 0, .slice none 0 0, .int .i64 0, .slice none 0 0, .int .i64 0, .slice none 0 0, .int .i64 0, .int .i64 0, .int .i64 0, .slice none 0 0, .bool false, .bool false, .slice none 0 0] RZ (by kernel_rfl) rfl (by intro u hu; simp at hu; rcases hu with rfl | rfl | rfl | rfl | rfl | rfl | rfl | rfl | rfl | rfl | rfl | rfl | rfl | rfl <;> rfl) ?_)
  generalize w1.setRow (w.heap.size + 1) #[.int .i64 0, .int .i64 0, .slice none 0 0, .int .i64 0, .slice none 0 0, .int .i64 0, .slice none 0 0, .int .i64 0, .int .i64 0, .int .i64 0, .slice none 0 0, .bool false, .bool false, .slice none 0 0] = V2 at *
  have z0 := RowIs.cell (j := 0) RZ2.out rfl
  have z1 := RowIs.cell (j := 1) RZ2.out rfl
  have z2 := RowIs.cell (j := 2) RZ2.out rfl
  have z3 := RowIs.cell (j := 3) RZ2.out rfl
  have z4 := RowIs.cell (j := 4) RZ2.out rfl
  have z5 := RowIs.cell (j := 5) RZ2.out rfl
  have z6 := RowIs.cell (j := 6) RZ2.out rfl
  have z7 := RowIs.cell (j := 7) RZ2.out rfl
  have z8 := RowIs.cell (j := 8) RZ2.out rfl
  have z9 := RowIs.cell (j := 9) RZ2.out rfl
  have z10 := RowIs.cell (j := 10) RZ2.out rfl
  have z11 := RowIs.cell (j := 11) RZ2.out rfl
  have z12 := RowIs.cell (j := 12) RZ2.out rfl
  have z13 := RowIs.cell (j := 13) RZ2.out rfl
  have zf := fun j => RowIs.frozen RZ2.out j
  refine bodyPost_ret (v := .tuple #[.agg #[.int .i64 0, .int .i64 0, .slice none 0 0, .int .i64 0, .slice none 0 0, .int .i64 0, .slice none 0 0, .int .i64 0, .int .i64 0, .int .i64 0, .slice none 0 0, .bool false, .bool false, .slice none 0 0], .bool false]) (by simp [results, Tryz.results29, go_sem, *]) rfl ?_
  exact ⟨rfl, HB2.out⟩
set_option maxHeartbeats 8000000 in
theorem implLinkOf (d : CnD) (ve vi vo vf : Value) (w : World) (hv : CnRd w d ve vi vo vf) (hok : okCn d = true) :
    Calls Tryz.prog 29 #[cnv d ve vi vo vf] w fun x w' => ∃ ve' vi' vo' vf' bs, x = .returned (.tuple #[.agg (lkcs0 d ve' vi' vo' vf' (.slice none 0 0)).toArray, .bool (!d.dead)]) ∧ CnOw w' bs d ve' vi' vo' vf' ∧ (∀ b ∈ bs, w.heap.size ≤ b) ∧ Below w.heap.size w w' := by
  have HV := hide hv
  obtain ⟨ae, pe, rfl, _, _⟩ := hv.e.form
  obtain ⟨ai, pi, rfl, _, _⟩ := hv.i.form
  obtain ⟨ao, po, rfl, _, _⟩ := hv.o.form
  obtain ⟨af, pf, rfl, _, _⟩ := hv.f.form
  clear hv
  have hbA : Below w.heap.size w ((w.alloc (.cells #[.int .i64 d.reg.lim, .int .i64 d.reg.top, .slice ae d.reg.es.length pe, .int .i64 d.inr, .slice ai d.inT.length pi, .int .i64 d.outr, .slice ao d.outT.length po, .int .i64 d.get, .int .i64 d.give, .int .i64 d.first, .slice af d.flows.length pf, .bool d.away, .bool d.dead] 43)).alloc (.cells #[.int .i64 0, .int .i64 0, .slice none 0 0, .int .i64 0, .slice none 0 0, .int .i64 0, .slice none 0 0, .int .i64 0, .int .i64 0, .int .i64 0, .slice none 0 0, .bool false, .bool false, .slice none 0 0] 69)) := ((Below.refl _ _).alloc (Nat.le_refl _) _).alloc (by simp) _
  have RA := (rowIs_new w 43 [.int .i64 d.reg.lim, .int .i64 d.reg.top, .slice ae d.reg.es.length pe, .int .i64 d.inr, .slice ai d.inT.length pi, .int .i64 d.outr, .slice ao d.outT.length po, .int .i64 d.get, .int .i64 d.give, .int .i64 d.first, .slice af d.flows.length pf, .bool d.away, .bool d.dead]).alloc (.cells #[.int .i64 0, .int .i64 0, .slice none 0 0, .int .i64 0, .slice none 0 0, .int .i64 0, .slice none 0 0, .int .i64 0, .int .i64 0, .int .i64 0, .slice none 0 0, .bool false, .bool false, .slice none 0 0] 69)
  have RZ := rowIs_new (w.alloc (.cells #[.int .i64 d.reg.lim, .int .i64 d.reg.top, .slice ae d.reg.es.length pe, .int .i64 d.inr, .slice ai d.inT.length pi, .int .i64 d.outr, .slice ao d.outT.length po, .int .i64 d.get, .int .i64 d.give, .int .i64 d.first, .slice af d.flows.length pf, .bool d.away, .bool d.dead] 43)) 69 [.int .i64 0, .int .i64 0, .slice none 0 0, .int .i64 0, .slice none 0 0, .int .i64 0, .slice none 0 0, .int .i64 0, .int .i64 0, .int .i64 0, .slice none 0 0, .bool false, .bool false, .slice none 0 0]
  have hsz : (w.alloc (.cells #[.int .i64 d.reg.lim, .int .i64 d.reg.top, .slice ae d.reg.es.length pe, .int .i64 d.inr, .slice ai d.inT.length pi, .int .i64 d.outr, .slice ao d.outT.length po, .int .i64 d.get, .int .i64 d.give, .int .i64 d.first, .slice af d.flows.length pf, .bool d.away, .bool d.dead] 43)).heap.size = w.heap.size + 1 := by simp
  rw [hsz] at RZ
  obtain ⟨V, hV⟩ : ∃ V, (w.alloc (.cells #[.int .i64 d.reg.lim, .int .i64 d.reg.top, .slice ae d.reg.es.length pe, .int .i64 d.inr, .slice ai d.inT.length pi, .int .i64 d.outr, .slice ao d.outT.length po, .int .i64 d.get, .int .i64 d.give, .int .i64 d.first, .slice af d.flows.length pf, .bool d.away, .bool d.dead] 43)).alloc (.cells #[.int .i64 0, .int .i64 0, .slice none 0 0, .int .i64 0, .slice none 0 0, .int .i64 0, .slice none 0 0, .int .i64 0, .int .i64 0, .int .i64 0, .slice none 0 0, .bool false, .bool false, .slice none 0 0] 69) = V := ⟨_, rfl⟩
  rw [hV] at hbA RA RZ
  have HB := hide hbA
  have HOK := hide hok
  clear hsz hbA
  go_enter Tryz.func29, Tryz.ntmps29
  go_upto_region 1 with fail
  try rw [hV]
  clear hV
  go_wp2_with (refine wpList_load_row (by rfl) 43 _ (by rfl) w.heap.size (by rfl) [.int .i64 d.reg.lim, .int .i64 d.reg.top, .slice ae d.reg.es.length pe, .int .i64 d.inr, .slice ai d.inT.length pi, .int .i64 d.outr, .slice ao d.outT.length po, .int .i64 d.get, .int .i64 d.give, .int .i64 d.first, .slice af d.flows.length pf, .bool d.away, .bool d.dead] _ 43 RA Tryz.underlying43 rfl (by kernel_rfl) ?_)
  refine (implConnRight d _ _ _ _ _ (HV.out.new HB.out)).mono ?_; rw [hok]; rintro e w1 ⟨rfl, hb1⟩
  have HRA := hide (RA.new hb1)
  have HRZ := hide (RZ.new hb1)
  replace HB := hide (bchain HB.out hb1)
  clear hb1 RA RZ hok
  go_upto_region 3 with fail
  have hD : Below w1.heap.size w1 (World.drew w1) := (Below.refl _ _).drew
  replace HRA := hide (HRA.out.new hD)
  replace HRZ := hide (HRZ.out.new hD)
  replace HB := hide (bchain HB.out hD)
  clear hD
  refine wp_region_held_drew (S := fun u => RowIs u w.heap.size 43 [.int .i64 d.reg.lim, .int .i64 d.reg.top, .slice ae d.reg.es.length pe, .int .i64 d.inr, .slice ai d.inT.length pi, .int .i64 d.outr, .slice ao d.outT.length po, .int .i64 d.get, .int .i64 d.give, .int .i64 d.first, .slice af d.flows.length pf, .bool d.away, .bool d.dead]) (by kernel_rfl) HRA.out (fun hS => ?_)
  generalize World.drew w1 = v1 at *
  refine wpAnyH_take (i := 0) (v := .agg #[.int .i64 d.reg.lim, .int .i64 d.reg.top, .slice ae d.reg.es.length pe, .int .i64 d.inr, .slice ai d.inT.length pi, .int .i64 d.outr, .slice ao d.outT.length po, .int .i64 d.get, .int .i64 d.give, .int .i64 d.first, .slice af d.flows.length pf, .bool d.away, .bool d.dead]) rfl (by kernel_rfl) (by kernel_rfl) (by kernel_rfl) (fun _ _ _ h => h) (Or.inl ⟨by kernel_rfl, ?ld⟩) hS ?_
  case ld =>
    intro uu hu
    have z0 := RowIs.cell (j := 0) hu rfl
    have z1 := RowIs.cell (j := 1) hu rfl
    have z2 := RowIs.cell (j := 2) hu rfl
    have z3 := RowIs.cell (j := 3) hu rfl
    have z4 := RowIs.cell (j := 4) hu rfl
    have z5 := RowIs.cell (j := 5) hu rfl
    have z6 := RowIs.cell (j := 6) hu rfl
    have z7 := RowIs.cell (j := 7) hu rfl
    have z8 := RowIs.cell (j := 8) hu rfl
    have z9 := RowIs.cell (j := 9) hu rfl
    have z10 := RowIs.cell (j := 10) hu rfl
    have z11 := RowIs.cell (j := 11) hu rfl
    have z12 := RowIs.cell (j := 12) hu rfl
    clear hu
    go_simp
  refine wpAnyH_take (i := 3) (v := ?_) rfl (by kernel_rfl) (by kernel_rfl) (by kernel_rfl) (fun _ _ _ h => h) (Or.inl ⟨by rfl, ?_⟩) hS ?_; rotate_left; focus (intro w hw; clear hw; go_simp; try with_reducible rfl)
  refine wpAnyH_take (i := 4) (v := .bool d.dead) rfl (by kernel_rfl) (by kernel_rfl) (by kernel_rfl) (fun _ _ _ h => h) (Or.inl ⟨by kernel_rfl, ?ld⟩) hS ?_; case ld => (intro uu hu; have z2 := RowIs.cell (j := 12) hu rfl; have z8 := hu.lt; clear hu; go_simp)
  refine wpAnyH_take (i := 5) (v := ?_) rfl (by kernel_rfl) (by kernel_rfl) (by kernel_rfl) (fun _ _ _ h => h) (Or.inl ⟨by rfl, ?_⟩) hS ?_; rotate_left; focus (intro w hw; clear hw; go_simp; try with_reducible rfl)
  refine wpAnyH_ready (rs := [1]) (by kernel_rfl) (by simp) ?_; refine AllReadyH.cons rfl (fun K hK => ?_) AllReadyH.nil; go_simp
  refine (implConnApart d _ _ _ _ _ (HV.out.new HB.out) HOK.out).mono ?_; rintro e v2 ⟨vn, rfl, hnew, hb2⟩
  obtain ⟨w1', w2', w3', w4', bs, rfl, hcn, hlo⟩ := hnew
  obtain ⟨a1, p1, rfl, _, _⟩ := hcn.rd.e.form
  obtain ⟨a2, p2, rfl, _, _⟩ := hcn.rd.i.form
  obtain ⟨a3, p3, rfl, _, _⟩ := hcn.rd.o.form
  obtain ⟨a4, p4, rfl, _, _⟩ := hcn.rd.f.form
  replace HRA := hide (HRA.out.new hb2)
  have hz1 := HRZ.out.lt
  replace HRZ := hide (HRZ.out.new hb2)
  have HCN := hide hcn
  have HLO : Hid (∀ b ∈ bs, w.heap.size + 1 < b) := fun b hb => by have := hlo b hb; omega
  replace HB := hide (bchain HB.out hb2)
  refine hK.out _ _ HRA.out (fun hS => ?_)
  clear hK K hcn hlo hb2 hz1
  try simp only [Act.put, List.getElem_toArray, List.getElem_cons_succ, List.getElem_cons_zero, List.setIfInBounds_toArray, List.set_cons_zero, List.set_cons_succ]
  refine wpAnyH_take (i := 2) (v := ?_) rfl (by kernel_rfl) (by kernel_rfl) (by kernel_rfl) (fun _ _ _ h => h) (Or.inl ⟨by rfl, ?_⟩) hS ?_; rotate_left; focus (intro w hw; clear hw; go_simp; try with_reducible rfl)
  refine wpAnyH_ready (rs := [6]) (by kernel_rfl) (by simp) ?_
  refine AllReadyH.cons rfl (fun K hK => ?_) AllReadyH.nil
  try simp only [Act.put, List.getElem_toArray, List.getElem_cons_succ, List.getElem_cons_zero, List.setIfInBounds_toArray, List.set_cons_zero, List.set_cons_succ]
  rw [if_pos (by kernel_rfl)]
  refine wp_store_row 69 _ _ (by rfl) (w.heap.size + 1) #[.int .i64 d.reg.lim, .int .i64 d.reg.top, .slice a1 d.reg.es.length p1, .int .i64 d.inr, .slice a2 d.inT.length p2, .int .i64 d.outr, .slice a3 d.outT.length p3, .int .i64 d.get, .int .i64 d.give, .int .i64 d.first, .slice a4 d.flows.length p4, .bool d.away, .bool d.dead, .slice none 0 0] (by rfl) (by rfl) 69 #[.int .i64 0, .int .i64 0, .slice none 0 0, .int .i64 0, .slice none 0 0, .int .i64 0, .slice none 0 0, .int .i64 0, .int .i64 0, .int .i64 0, .slice none 0 0, .bool false, .bool false, .slice none 0 0] HRZ.out (by kernel_rfl) rfl (Array.all_eq_true_iff_forall_mem.2 (by intro u hu; simp at hu; rcases hu with rfl | rfl | rfl | rfl | rfl | rfl | rfl | rfl | rfl | rfl | rfl | rfl | rfl | rfl <;> rfl)) ?_
  have RZ2 := hide (rowIs_setRow (cs' := [.int .i64 d.reg.lim, .int .i64 d.reg.top, .slice a1 d.reg.es.length p1, .int .i64 d.inr, .slice a2 d.inT.length p2, .int .i64 d.outr, .slice a3 d.outT.length p3, .int .i64 d.get, .int .i64 d.give, .int .i64 d.first, .slice a4 d.flows.length p4, .bool d.away, .bool d.dead, .slice none 0 0]) HRZ.out)
  have HB2 := hide (below_setRow HB.out (show w.heap.size ≤ w.heap.size + 1 by omega) #[.int .i64 d.reg.lim, .int .i64 d.reg.top, .slice a1 d.reg.es.length p1, .int .i64 d.inr, .slice a2 d.inT.length p2, .int .i64 d.outr, .slice a3 d.outT.length p3, .int .i64 d.get, .int .i64 d.give, .int .i64 d.first, .slice a4 d.flows.length p4, .bool d.away, .bool d.dead, .slice none 0 0])
  have HRA2 := hide (HRA.out.kept (setRow_other v2 (w.heap.size + 1) #[.int .i64 d.reg.lim, .int .i64 d.reg.top, .slice a1 d.reg.es.length p1, .int .i64 d.inr, .slice a2 d.inT.length p2, .int .i64 d.outr, .slice a3 d.outT.length p3, .int .i64 d.get, .int .i64 d.give, .int .i64 d.first, .slice a4 d.flows.length p4, .bool d.away, .bool d.dead, .slice none 0 0] w.heap.size (by omega)))
  have HCN2 := hide (HCN.out.keep (w' := v2.setRow (w.heap.size + 1) #[.int .i64 d.reg.lim, .int .i64 d.reg.top, .slice a1 d.reg.es.length p1, .int .i64 d.inr, .slice a2 d.inT.length p2, .int .i64 d.outr, .slice a3 d.outT.length p3, .int .i64 d.get, .int .i64 d.give, .int .i64 d.first, .slice a4 d.flows.length p4, .bool d.away, .bool d.dead, .slice none 0 0]) (by rw [setRow_size]; exact Nat.le_refl _) (fun b hb => setRow_other _ _ _ _ (by have := HLO.out b hb; omega)))
  refine hK.out _ _ HRA2.out (fun hS => ?_)
  clear hK K HRA HRZ HB HCN
  try simp only [Act.put, List.getElem_toArray, List.getElem_cons_succ, List.getElem_cons_zero, List.setIfInBounds_toArray, List.set_cons_zero, List.set_cons_succ]
  generalize v2.setRow (w.heap.size + 1) #[.int .i64 d.reg.lim, .int .i64 d.reg.top, .slice a1 d.reg.es.length p1, .int .i64 d.inr, .slice a2 d.inT.length p2, .int .i64 d.outr, .slice a3 d.outT.length p3, .int .i64 d.get, .int .i64 d.give, .int .i64 d.first, .slice a4 d.flows.length p4, .bool d.away, .bool d.dead, .slice none 0 0] = V2 at *
  refine wpAnyH_take (i := 7) (v := ?_) rfl (by kernel_rfl) (by kernel_rfl) (by kernel_rfl) (fun _ _ _ h => h) (Or.inl ⟨by rfl, ?_⟩) hS ?_; rotate_left; focus (intro w hw; clear hw; go_simp; try with_reducible rfl)
  refine wpAnyH_done (by kernel_rfl) ?_ _
  have z0 := RowIs.cell (j := 0) RZ2.out rfl
  have z1 := RowIs.cell (j := 1) RZ2.out rfl
  have z2 := RowIs.cell (j := 2) RZ2.out rfl
  have z3 := RowIs.cell (j := 3) RZ2.out rfl
  have z4 := RowIs.cell (j := 4) RZ2.out rfl
  have z5 := RowIs.cell (j := 5) RZ2.out rfl
  have z6 := RowIs.cell (j := 6) RZ2.out rfl
  have z7 := RowIs.cell (j := 7) RZ2.out rfl
  have z8 := RowIs.cell (j := 8) RZ2.out rfl
  have z9 := RowIs.cell (j := 9) RZ2.out rfl
  have z10 := RowIs.cell (j := 10) RZ2.out rfl
  have z11 := RowIs.cell (j := 11) RZ2.out rfl
  have z12 := RowIs.cell (j := 12) RZ2.out rfl
  have z13 := RowIs.cell (j := 13) RZ2.out rfl
  have zf := fun j => RowIs.frozen RZ2.out j
  go_wp2_with fail
  refine bodyPost_ret (v := .tuple #[.agg #[.int .i64 d.reg.lim, .int .i64 d.reg.top, .slice a1 d.reg.es.length p1, .int .i64 d.inr, .slice a2 d.inT.length p2, .int .i64 d.outr, .slice a3 d.outT.length p3, .int .i64 d.get, .int .i64 d.give, .int .i64 d.first, .slice a4 d.flows.length p4, .bool d.away, .bool d.dead, .slice none 0 0], .bool (!d.dead)]) (by simp [results, Tryz.results29, go_sem, *]) rfl ?_
  exact ⟨_, _, _, _, bs, rfl, HCN2.out, fun b hb => by have := HLO.out b hb; omega, HB2.out⟩
end Go.Proofs.YtllaeakeaabiaaaGreat
/- The program's link: a frame that moves a window; settings. -/
namespace Go.Proofs.YtllaeakeaabiaaaGreat
open Go.RowKit
set_option maxRecDepth 100000
set_option linter.unusedSimpArgs false
set_option linter.unusedVariables false
/-- How a step ends. -/
def endO (r : GotO) : Ending := match r.2.2 with | none => .returned (.tuple #[]) | some (st, code) => .panicked (pnc st code)
set_option maxHeartbeats 8000000 in
theorem implGotWindow (lo g : Nat) (d : CnD) (L : List Fr) (bs : List Nat) (f : Fr) (w : World) (h : LkM w lo g d L bs) (hok : okCn d = true) (hL : L.length ≤ 1000000) (hb : f.b.size ≤ maxLen) :
    Calls Tryz.prog 137 #[.pointer (some ⟨g, 0, none⟩), .agg #[.int .i64 f.k, .int .i64 f.fl, .int .i64 f.st, .string f.b]] w fun x w' => x = endO (windowO d f.st f.b) ∧ ∃ bx, Lnk lo g w bs w' (windowO d f.st f.b).1 (L ++ (windowO d f.st f.b).2.1) bx := by
  have hq := h.far (Nat.le_refl _)
  obtain ⟨V, hV⟩ : ∃ V, w.alloc (.cells #[.int .i64 f.k, .int .i64 f.fl, .int .i64 f.st, .string f.b] 48) = V := ⟨_, rfl⟩; have hBV : Below w.heap.size w V := (by rw [← hV]; exact (Below.refl _ _).alloc (Nat.le_refl _) _); have hRV : RowIs V w.heap.size 48 [.int .i64 f.k, .int .i64 f.fl, .int .i64 f.st, .string f.b] := (by rw [← hV]; exact rowIs_new w 48 _)
  have hm := h.new hBV
  have hreg := (okCn_iff.1 hok).1
  have hlen := (cn_len hok).1
  have h60 := (cn_len hok).2
  have hgl := hm.glt
  have HB := hide hBV; have HR := hide hRV; have HM := hide hm; have HQ := hide hq; have HBN := hide hb
  have r2 := RowIs.cell (j := 2) hRV rfl
  have r3 := RowIs.cell (j := 3) hRV rfl
  have rl := hRV.lt
  obtain ⟨E, hE⟩ : ∃ E, windowO d f.st f.b = E := ⟨_, rfl⟩
  rw [hE]
  by_cases hst : f.st = 0
  · have hst' : (f.st != 0) = false := by simpa using hst
    obtain ⟨⟨ve, vi, vo, vf, tv, cb, hrow, hc, h3, h4, h5⟩, hl, hlo, hng, hbs⟩ := hm
    have x8 := RowIs.cell (j := 8) hrow rfl
    have HROW := hide hrow
    obtain ⟨a, ok, hgr⟩ : ∃ a ok, grV d.give (numV f.b) = (a, ok) := ⟨_, _, rfl⟩
    have HE : Hid (E = if ok = true then ({ d with give := a }, [], none) else (d, [], some (0, 2))) := by
      show E = _
      rw [← hE]
      unfold windowO
      rw [if_pos hst, hgr]
    have HS := hide hst
    clear hrow hc h3 h4 h5 hl hlo hng hbs hst h hBV hRV hq hb hE hok hlen h60 hreg
    go_enter Tryz.func137, Tryz.ntmps137
    go_upto_region 5 with fail
    try rw [hV]
    clear hV
    have z8 : ∀ y : Later V, y.w.cell? ⟨g, 8, none⟩ = some (.int .i64 d.give) := fun y => (y.b.cell (p := ⟨g, 8, none⟩) hgl).trans x8
    have z3 : ∀ y : Later V, y.w.cell? ⟨w.heap.size, 3, none⟩ = some (.string f.b) := fun y => (y.b.cell (p := ⟨w.heap.size, 3, none⟩) rl).trans r3
    have hne : Nonempty (Later V) := ⟨⟨V, Below.refl _ _⟩⟩; refine region_later (by kernel_rfl) (by kernel_rfl) ?_
    repeat (go_big_quiet_step (fail))
    (go_big_quiet_want; go_big_quiet_op; refine ⟨.int .i64 (numV f.b), fun y => later_same (x := y) (implNumber f.b y.w HBN.out), ?_⟩; go_big_quiet_on)
    repeat (go_big_quiet_step (fail))
    (go_big_quiet_want; go_big_quiet_op; refine ⟨(.tuple #[.int .i64 a, .bool ok]), fun y => later_calls (x := y) (by have := implGranted d.give (numV f.b) y.w; rw [hgr] at this; exact this), ?_⟩; go_big_quiet_on)
    repeat (go_big_quiet_step (fail))
    refine wpQuiet_nil ?_; intro _ hw'; obtain ⟨y, hw''⟩ := hw'; subst hw''; have hby := y.b
    have HB2 := hide (bchain HB.out hby)
    replace HM := hide (HM.out.new hby)
    replace HROW := hide (HROW.out.new hby)
    replace HR := hide (HR.out.new hby)
    generalize y.w = W at *
    clear hby hne z8 z3 x8 r2 r3 hgr
    have r2 := RowIs.cell (j := 2) HR.out rfl
    cases ok
    · have hE0 := HE.out
      rw [if_neg (by decide)] at hE0
      subst hE0
      rw [HS.out] at r2
      have HL := hide (Lnk.after HB2.out (Lnk.start HM.out))
      clear HB2 HM HR HE HB HROW
      go_wp2_with fail
      refine ⟨rfl, rfl, bs, ?_⟩
      (try rw [List.append_nil]); exact HL.out
    · have hE0 := HE.out
      rw [if_pos rfl] at hE0
      subst hE0
      have x8 := RowIs.cell (j := 8) HROW.out rfl
      have xf := RowIs.frozen HROW.out 8
      have xl := HROW.out.lt
      have HL := hide (Lnk.after HB2.out (HM.out.setGive a))
      clear HB2 HM HR HE HB HROW
      go_wp2_with fail
      first | go_end0 | refine bodyPost_ret (results_none rfl _ _ _) rfl ?_
      refine ⟨rfl, bs, ?_⟩
      (try rw [List.append_nil]); exact HL.out
  · have hst' : (f.st != 0) = true := by simpa using hst
    obtain ⟨S, hS0⟩ : ∃ S, stateD d.reg f.st = S := ⟨_, rfl⟩
    have hE2 : E = if S = 0 then (d, [], some (0, 1)) else if S = 4 then (d, [], none) else if (grV (giveAt d f.st) (numV f.b)).2 then (atFl d f.st (fun x => { x with give := (grV x.give (numV f.b)).1 }), [], none) else (d, [], some (f.st, 2)) := by
      rw [← hE]; unfold windowO; rw [if_neg hst, hS0]
    have HE := hide hE2
    have HS0 := hide hS0
    clear hst h hBV hRV hq hb hE hE2
    by_cases hs0 : S = 0
    · have hE0 := HE.out
      rw [if_pos hs0] at hE0
      subst hE0
      have HL := hide (Lnk.start HM.out)
      have hz := HS0.out.trans hs0
      clear HE HS0 hs0 HQ HBN hok
      go_enter Tryz.func137, Tryz.ntmps137
      go_wp2_with fail
      try rw [hV]
      clear hV
      refine (implBegunNo lo g d L bs f.st _ HM.out hreg hz).mono ?_; rintro x w1 ⟨rfl, hb1⟩
      have HL2 := hide (Lnk.after HB.out (HL.out.new hb1))
      clear hb1
      go_wp2_with fail
      refine ⟨rfl, rfl, bs, ?_⟩
      (try rw [List.append_nil]); exact HL2.out
    have hz : stateD d.reg f.st ≠ 0 := by rw [HS0.out]; exact hs0
    by_cases hs4 : S = 4
    · have hE0 := HE.out
      rw [if_neg hs0, if_pos hs4] at hE0
      subst hE0
      have HL := hide (Lnk.start HM.out)
      have h4 := HS0.out.trans hs4
      clear HE HS0 hs0 hs4 HQ HBN hok
      go_enter Tryz.func137, Tryz.ntmps137
      go_wp2_with fail
      try rw [hV]
      clear hV
      refine (implBegun lo g d L bs f.st _ HM.out hreg hz).mono ?_; rw [h4]; rintro x w1 ⟨rfl, hb1⟩
      have HL2 := hide (Lnk.after HB.out (HL.out.new hb1))
      clear hb1
      go_wp2_with fail
      first | go_end0 | refine bodyPost_ret (results_none rfl _ _ _) rfl ?_
      refine ⟨rfl, bs, ?_⟩
      (try rw [List.append_nil]); exact HL2.out
    have hs4' : (S == 4) = false := by simpa using hs4
    obtain ⟨k, ha⟩ := state_at (r := d.reg) (id := f.st) hz (by rw [HS0.out]; exact hs4)
    obtain ⟨hk, _, _⟩ := atE_some ha
    have hkf : k < d.flows.length := by omega
    obtain ⟨gf, A, C, ve, vi, vo, cap, v0, tv, hrow, hgb, hgfl, hgg, hmid, f0, f1, hput⟩ := HM.out.flw k hkf
    have hx := RowIs.cell (j := 10) hrow rfl
    obtain ⟨a, ok, hgr⟩ : ∃ a ok, grV d.flows[k].give (numV f.b) = (a, ok) := ⟨_, _, rfl⟩
    have hE0 : E = if ok = true then ({ d with flows := d.flows.set k { d.flows[k] with give := a } }, [], none) else (d, [], some (f.st, 2)) := by
      rw [HE.out, if_neg hs0, if_neg hs4, giveAt_some ha hkf, atFl_some ha, modify_is _ _ hkf, hgr]
    generalize d.flows[k] = F at *
    have HE2 := hide hE0
    have HX := hide hx; have HP := hide hput; have HMD := hide hmid; have F0 := hide f0; have F1 := hide f1; have HA := hide ha; have HZ := hide hz
    have HK := hide hkf
    clear HE hE0 hrow hput hmid f0 f1 ha hz hs0 hs4 hx hok
    go_enter Tryz.func137, Tryz.ntmps137
    go_wp2_with fail
    try rw [hV]
    clear hV
    refine (implBegun lo g d L bs f.st _ HM.out hreg HZ.out).mono ?_; rw [HS0.out]; rintro x w1 ⟨rfl, hb1⟩
    replace HM := hide (HM.out.new hb1)
    replace HMD := hide (HMD.out.new hb1)
    replace HR := hide (HR.out.new hb1)
    have HT := hide (TurnB.new (bs := [gf]) hb1)
    have HBB := hide (bchain HB.out hb1)
    replace HX := hide ((hb1.cell (p := ⟨g, 10, none⟩) hgl).trans HX.out)
    clear hb1 r2 r3 rl
    have r2 := RowIs.cell (j := 2) HR.out rfl
    go_wp2_with fail
    refine (implFlowSome lo g d L bs f.st k gf cap _ HM.out hlen h60 HA.out HX.out).mono ?_; rintro x w2 ⟨rfl, hb1⟩
    replace HM := hide (HM.out.new hb1)
    replace HMD := hide (HMD.out.new hb1)
    replace HR := hide (HR.out.new hb1)
    replace HT := hide (HT.out.trans (TurnB.new hb1))
    replace HBB := hide (bchain HBB.out hb1)
    clear hb1 r2 HX
    have r3 := RowIs.cell (j := 3) HR.out rfl
    have rl := HR.out.lt
    have c2 := MidIs.cell (j := 2) HMD.out rfl
    have cl := HMD.out.lt
    go_upto_region 5 with fail
    have z8 : ∀ y : Later w2, y.w.cell? ⟨gf, k * 15 + 2, none⟩ = some (.int .i64 F.give) := fun y => (y.b.cell (p := ⟨gf, k * 15 + 2, none⟩) cl).trans c2
    have z3 : ∀ y : Later w2, y.w.cell? ⟨w.heap.size, 3, none⟩ = some (.string f.b) := fun y => (y.b.cell (p := ⟨w.heap.size, 3, none⟩) rl).trans r3
    have hne : Nonempty (Later w2) := ⟨⟨w2, Below.refl _ _⟩⟩; refine region_later (by kernel_rfl) (by kernel_rfl) ?_
    repeat (go_big_quiet_step (fail))
    (go_big_quiet_want; go_big_quiet_op; refine ⟨.int .i64 (numV f.b), fun y => later_same (x := y) (implNumber f.b y.w HBN.out), ?_⟩; go_big_quiet_on)
    repeat (go_big_quiet_step (fail))
    (go_big_quiet_want; go_big_quiet_op; refine ⟨(.tuple #[.int .i64 a, .bool ok]), fun y => later_calls (x := y) (by have := implGranted F.give (numV f.b) y.w; rw [hgr] at this; exact this), ?_⟩; go_big_quiet_on)
    repeat (go_big_quiet_step (fail))
    refine wpQuiet_nil ?_; intro _ hw'; obtain ⟨y, hw''⟩ := hw'; subst hw''; have hby := y.b
    replace HBB := hide (bchain HBB.out hby)
    replace HM := hide (HM.out.new hby)
    replace HMD := hide (HMD.out.new hby)
    replace HT := hide (HT.out.trans (TurnB.new hby))
    replace HR := hide (HR.out.new hby)
    generalize y.w = W at *
    clear hby hne z8 z3 c2 r3 hgr cl rl
    have r2 := RowIs.cell (j := 2) HR.out rfl
    cases ok
    · have hE0 := HE2.out
      rw [if_neg (by decide)] at hE0
      subst hE0
      have HL := hide (Lnk.after HBB.out (Lnk.start HM.out))
      clear HM HR HE2 HB HMD HP
      go_wp2_with fail
      refine ⟨rfl, rfl, bs, ?_⟩
      (try rw [List.append_nil]); exact HL.out
    · have hE0 := HE2.out
      rw [if_pos rfl] at hE0
      subst hE0
      have c2 := MidIs.cell (j := 2) HMD.out rfl
      have cf := fun j => MidIs.frozen HMD.out j
      have cl := HMD.out.lt
      have hm2 := MidIs.set HMD.out 2 (.int .i64 a) (by simp)
      have HL := hide (Lnk.after HB.out (HP.out _ { F with give := a } rfl F0.out F1.out hm2 (HT.out.set _ _ (by simp))))
      clear HM HR HE2 HB HMD HP hm2
      go_wp2_with fail
      first | go_end0 | refine bodyPost_ret (results_none rfl _ _ _) rfl ?_
      refine ⟨rfl, bs, ?_⟩
      (try rw [List.append_nil]); exact HL.out
end Go.Proofs.YtllaeakeaabiaaaGreat
