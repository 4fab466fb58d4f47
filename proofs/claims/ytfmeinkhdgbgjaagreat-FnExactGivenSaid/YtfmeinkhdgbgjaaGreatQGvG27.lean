/- Several small texts of one level, one behind the other. -/
import Derived.Test.YtfmeinkhdgbgjaaGreatQGvG26
import Derived.Test.YtfmeinkhdgbgjaaGreatQGvG20
import Derived.Test.YtfmeinkhdgbgjaaGreatQGvG21
import Derived.Test.YtfmeinkhdgbgjaaGreatQGvG18
import Derived.Test.YtfmeinkhdgbgjaaGreatQGvG24
import Derived.Test.YtfmeinkhdgbgjaaGreatQGvG25
import Derived.Test.YtfmeinkhdgbgjaaGreatQGvG23
import Derived.Test.YtfmeinkhdgbgjaaGreatQGvG4
import Derived.Test.YtfmeinkhdgbgjaaGreatQGvG3
import Derived.Test.YtfmeinkhdgbgjaaGreatQGvG2
import Derived.Test.YtfmeinkhdgbgjaaGreatQGvG1
import Derived.Handy
import Derived.Lib.SmallJoins
import Derived.Laws.BitsLemmas
import Derived.Deep.DeepMust
import Derived.Test.YtfmeinkhdgbgjaaGreatQGvRegImpl
import Derived.Test.YtfmeinkhdgbgjaaGreatQGvG13
import Derived.Test.YtfmeinkhdgbgjaaGreatQGvG7
import Derived.Test.YtfmeinkhdgbgjaaGreatQGvG5
/- Flushing in place: where it stands, what each store leaves; how many frames there are. -/
namespace Go.Proofs.YtfmeinkhdgbgjaaGreat
open Go.RowKit
set_option maxRecDepth 100000
set_option linter.unusedSimpArgs false
set_option linter.unusedVariables false
/-- The Conn in place, and the frames told so far, in v. -/
structure OutAt (w : World) (g : Nat) (bs : List Nat) (W : World) (D : CnD) (bx : List Nat) (v : Value) (L : List Fr) : Prop where
  c : CnM W g D bx
  t : TurnB (g :: bs) w W
  n : NewB w bs bx
  o : W.ownsRow w.heap.size 34 4 v L.length (fr L)
  a : ∀ q, v.ownBlock = some q → q ∉ g :: bx
section
variable {w W W' : World} {g : Nat} {bs bx by_ : List Nat} {D D' : CnD} {v v' : Value} {L M : List Fr}
theorem OutAt.new (h : OutAt w g bs W D bx v L) (hb : Below W.heap.size W W') : OutAt w g bs W' D bx v L := ⟨h.c.new hb, h.t.trans (TurnB.new hb), h.n, owns_new h.o hb, h.a⟩
theorem OutAt.turn (h : OutAt w g bs W D bx v L) (hc : CnM W' g D' by_) (ht : TurnB (g :: bx) W W') (hn : NewB W bx by_) : OutAt w g bs W' D' by_ v L :=
  ⟨hc, h.t.then h.n ht, h.n.trans hn h.t.size, frames_turn h.o ht h.a, fun q hq hx => by
    rcases List.mem_cons.1 hx with e | e
    · exact h.a q hq (by simp [e])
    · rcases hn q e with e | e
      · exact h.a q hq (by simp [e])
      · have := (h.o.lt q hq).2; omega⟩
theorem OutAt.app (h : OutAt w g bs W D bx v L) (ho : W'.ownsRow w.heap.size 34 4 v' (L.length + M.length) (fr L ++ fr M)) (hg : W.grownBy W' v.ownBlock) (hat : v'.ownBlock = v.ownBlock ∨ v'.ownBlock = some W.heap.size) : OutAt w g bs W' D bx v' (L ++ M) := by
  have hlt := h.o.lt
  refine ⟨h.c.grown hg h.a, ⟨hg.os.trans h.t.os, hg.tape.trans h.t.tape, hg.output.trans h.t.output, Nat.le_trans h.t.size hg.size, fun k hk hn' => (hg.block k (Nat.lt_of_lt_of_le hk h.t.size) (fun e => by have := (hlt k e.symm).1; omega)).trans (h.t.block k hk hn')⟩, h.n, ?_, fun q hq hx => ?_⟩
  · rw [fr_app, List.length_append]; exact ho
  · rcases hat with e | e
    · exact h.a q (e ▸ hq) hx
    · rw [hq] at e; have := h.c.lts q hx; have := Option.some.inj e; omega
theorem OutAt.done (h : OutAt w g bs W D bx v L) : StepC w g bs (D, L) (.returned v) W := ⟨v, bx, rfl, h.c, h.o, h.t, h.n, h.a⟩
end
/-- The Conn while a stream is flushed: its Flow, and Give. -/
def cur (D : CnD) (k : Nat) (G : Int) (F : FlD) : CnD := { D with give := G, flows := D.flows.set k F }
theorem cur_self (D : CnD) (k : Nat) (h : k < D.flows.length) : cur D k D.give D.flows[k] = D := by unfold cur; rw [List.set_getElem_self]
/-- .. in place: the Flows' row lies in block gf. -/
structure FlAt (w : World) (g : Nat) (bs : List Nat) (W : World) (D : CnD) (k : Nat) (G : Int) (F : FlD) (bx : List Nat) (gf cap : Nat) (v : Value) (L : List Fr) : Prop where
  out : OutAt w g bs W (cur D k G F) bx v L
  x : W.cell? ⟨g, 10, none⟩ = some (.slice (some ⟨gf, 0, none⟩) D.flows.length cap)
section
variable {w W W' : World} {g gf cap k : Nat} {bs bx by_ : List Nat} {D : CnD} {v v' : Value} {L M : List Fr} {G : Int} {F : FlD}
theorem FlAt.new (h : FlAt w g bs W D k G F bx gf cap v L) (hb : Below W.heap.size W W') : FlAt w g bs W' D k G F bx gf cap v L := ⟨h.out.new hb, (hb.cell (p := ⟨g, 10, none⟩) h.out.c.lt).trans h.x⟩
theorem FlAt.at (h : FlAt w g bs W D k G F bx gf cap v L) (hk : k < D.flows.length) :
    ∃ A C ve vi vo v0, RowIs W g 32 (cncs (cur D k G F) ve vi vo (.slice (some ⟨gf, 0, none⟩) D.flows.length cap)) ∧ gf ∈ bx ∧ gf < W.heap.size ∧ g ≠ gf ∧ MidIs W gf 57 A C (k * 15) (flcs F v0) ∧
      ∀ w' F', F'.fds = F.fds → F'.tun.up.b.size ≤ 9223372036854775807 → F'.tun.dn.b.size ≤ 9223372036854775807 → MidIs w' gf 57 A C (k * 15) (flcs F' v0) → TurnB [gf] W w' → CnM w' g (cur D k G F') bx := by
  have hk' : k < (cur D k G F).flows.length := by show k < (D.flows.set k F).length; rw [List.length_set]; exact hk
  have hF : (cur D k G F).flows[k] = F := List.getElem_set_self _
  obtain ⟨gf2, A, C, ve, vi, vo, cap2, v0, hrow, hgm, hgfl, hgg, hmid, _, _, _, hput⟩ := h.out.c.flw k hk'
  have e := (RowIs.cell (j := 10) hrow rfl).symm.trans h.x
  simp only [Option.some.injEq, Value.slice.injEq, Addr.mk.injEq, and_true, true_and] at e
  obtain ⟨rfl, e2, rfl⟩ := e
  rw [hF] at hmid hput
  rw [e2] at hrow
  refine ⟨A, C, ve, vi, vo, v0, hrow, hgm, hgfl, hgg, hmid, fun w' F' h1 h2 h3 h4 h5 => ?_⟩
  have := hput w' F' h1 h2 h3 h4 h5
  have e3 : ({ cur D k G F with flows := (cur D k G F).flows.set k F' } : CnD) = cur D k G F' := by unfold cur; simp [List.set_set]
  rwa [e3] at this
theorem FlAt.set (h : FlAt w g bs W D k G F bx gf cap v L) (hk : k < D.flows.length) (j : Nat) (u : Value) (F' : FlD) (hj : j < 15) (hu : ∀ v0, (flcs F v0).set j u = flcs F' v0) (hf : F'.fds = F.fds) (h1 : F'.tun.up.b.size ≤ 9223372036854775807) (h2 : F'.tun.dn.b.size ≤ 9223372036854775807) :
    FlAt w g bs (W.setCell ⟨gf, k * 15 + j, none⟩ u) D k G F' bx gf cap v L := by
  obtain ⟨A, C, ve, vi, vo, v0, hrow, hgm, hgfl, hgg, hmid, hput⟩ := h.at hk
  have hm2 := MidIs.set hmid j u (by simpa using hj)
  rw [hu v0] at hm2
  exact ⟨h.out.turn (hput _ F' hf h1 h2 hm2 ((TurnB.refl _ _).set _ _ (by simp))) ((TurnB.refl _ _).set _ _ (by simp [hgm])) (NewB.refl _ _), RowIs.cell (j := 10) (hrow.far ⟨gf, k * 15 + j, none⟩ u (fun e => hgg e.symm)) rfl⟩
theorem FlAt.give (h : FlAt w g bs W D k G F bx gf cap v L) (hk : k < D.flows.length) (n : Int) : FlAt w g bs (W.setCell ⟨g, 8, none⟩ (.int .i64 n)) D k n F bx gf cap v L := by
  obtain ⟨A, C, ve, vi, vo, v0, hrow, hgm, hgfl, hgg, hmid, hput⟩ := h.at hk
  exact ⟨h.out.turn (h.out.c.setGive n) ((TurnB.refl _ _).set _ _ (by simp)) (NewB.refl _ _), RowIs.cell (j := 10) (hrow.set 8 (.int .i64 n)) rfl⟩
theorem FlAt.app (h : FlAt w g bs W D k G F bx gf cap v L) (ho : W'.ownsRow w.heap.size 34 4 v' (L.length + M.length) (fr L ++ fr M)) (hg : W.grownBy W' v.ownBlock) (hat : v'.ownBlock = v.ownBlock ∨ v'.ownBlock = some W.heap.size) : FlAt w g bs W' D k G F bx gf cap v' (L ++ M) :=
  ⟨h.out.app ho hg hat, (World.cell?_of_block (hg.block g h.out.c.lt (fun e => h.out.a g e.symm (by simp)))).trans h.x⟩
theorem FlAt.some (h : OutAt w g bs W D bx v L) (hk : k < D.flows.length) : ∃ gf cap, FlAt w g bs W D k D.give D.flows[k] bx gf cap v L ∧ gf < W.heap.size := by
  obtain ⟨gf, A, C, ve, vi, vo, cap, v0, hrow, hgm, hgfl, _⟩ := h.c.flw k hk
  exact ⟨gf, cap, ⟨by rw [cur_self D k hk]; exact h, RowIs.cell (j := 10) hrow rfl⟩, hgfl⟩
end
end Go.Proofs.YtfmeinkhdgbgjaaGreat
/- How much there is in a Conn, and how many frames are told. -/
namespace Go.Proofs.YtfmeinkhdgbgjaaGreat
open Go.RowKit
set_option maxRecDepth 100000
set_option linter.unusedSimpArgs false
set_option linter.unusedVariables false
theorem cnt_flow1 (d : FlD) : cntFlow d = 14 + 2 * d.fds.length := by unfold cntFlow; rw [cntFieldS_len]; omega
theorem cnt_flows (L : List FlD) : (cntFlowS L : Int) ≤ 14 * szFlowS L := by
  unfold cntFlowS szFlowS
  induction L with
  | nil => decide
  | cons x L ih =>
    have e1 : cntLs cntFlow (x :: L) = cntFlow x + cntLs cntFlow L := rfl
    have e2 : sumLs szFlow (x :: L) = szFlow x + sumLs szFlow L := rfl
    have e3 := cnt_flow1 x
    have e4 : (x.fds.length : Int) ≤ szFlow x := by unfold szFlow szTunnel; have := szFieldS_len x.fds; omega
    rw [e1, e2, List.length_cons]
    omega
theorem cnt_conn (d : CnD) (h : szConn d ≤ 1048576) : 1 + cntConn d ≤ 1000000000 := by
  unfold szConn szRegistry szEntryS at h
  unfold cntConn
  have h1 := cnt_entries d.reg.es
  have h2 := cntFieldS_len d.inT
  have h3 := cntFieldS_len d.outT
  have h4 := cnt_flows d.flows
  have h5 := szFieldS_len d.inT
  have h6 := szFieldS_len d.outT
  have h7 : 0 ≤ szFlowS d.flows := szFlowS_nn _
  omega
theorem cnt_flows_ok (L : List FlD) (h : ∀ f ∈ L, f.fds.length ≤ 20) : cntFlowS L ≤ 54 * L.length := by
  unfold cntFlowS
  induction L with
  | nil => decide
  | cons x L ih =>
    have e1 : cntLs cntFlow (x :: L) = cntFlow x + cntLs cntFlow L := rfl
    have e3 := cnt_flow1 x
    have e4 := h x (by simp)
    have e5 := ih (fun f hf => h f (by simp [hf]))
    rw [e1, List.length_cons]
    omega
theorem cnt_ok (d : CnD) (h : okCn d = true) : cntConn d ≤ 100000 := by
  obtain ⟨hl, h60⟩ := cn_len h
  have h1 := cnt_entries d.reg.es
  have h2 := cntFieldS_len d.inT
  have h3 := cntFieldS_len d.outT
  have h4 := cnt_flows_ok d.flows (fun f hf => by
    have := (cn_flow h hf).2.2.2
    unfold okFs at this
    simp only [Bool.and_eq_true, decide_eq_true_eq] at this
    exact this.2)
  have h5 := okT_len (okCn_iff.1 h).2.1
  have h6 := okT_len (okCn_iff.1 h).2.2.1
  unfold cntConn
  omega
theorem cnt_zero : cntConn zCn ≤ 100000 := by decide
theorem cnt_given (c : CnD) (id : Int) (s : ByteArray) (fin : Bool) : cntConn (givenD c id s fin).1 ≤ 100000 := by
  unfold givenD
  split
  · exact cnt_zero
  rename_i h
  exact cnt_ok _ (given_law (by simpa using h)).1
end Go.Proofs.YtfmeinkhdgbgjaaGreat
/- The program's copy of a list, each item by its own apart: Flows. -/
namespace Go.Proofs.YtfmeinkhdgbgjaaGreat
open Go.RowKit
set_option maxRecDepth 100000
set_option linter.unusedSimpArgs false
set_option linter.unusedVariables false
theorem below_turnB {B : Nat} {a b c : World} {g : Nat} (h : Below B a b) (ht : TurnB [g] b c) (hg : B ≤ g) (hB : B ≤ b.heap.size) : Below B a c :=
  ⟨ht.os.trans h.os, ht.tape.trans h.tape, ht.output.trans h.output, Nat.le_trans h.size ht.size, fun k hk => (ht.block k (by omega) (by simp; omega)).trans (h.block k hk)⟩
theorem mApartFl (v : Value) (w : World) : (Go.method 457 57 v "loop.example/g00296/impl.apart").run Tryz.prog w = .ok (331, v) w := by kernel_rfl
set_option maxHeartbeats 8000000 in
theorem implEachFlow (fl : List FlD) (v : Value) (w : World) (hr : RdR flowS w v fl) (hok : ∀ f ∈ fl, okFs f.fds = true ∧ okTu f.tun = true) (hn : fl.length ≤ 60) :
    Calls Tryz.prog 183 #[v] w fun x w' => ∃ v', x = .returned v' ∧ OwX flowS w' w.heap.size w'.heap.size v' fl ∧ Below w.heap.size w w' := by
  obtain ⟨af, pf, rfl, q1, q2⟩ := hr.form
  have HFO : Hid (∀ f ∈ fl, okFs f.fds = true ∧ okTu f.tun = true) := hok
  obtain ⟨rs, hrs, hrd, hrr⟩ := hr
  have hrl : fl.length = rs.length := by rw [hrs]; simp
  have hone : ∀ u ∈ rs.flatMap (fun t : List Value × FlD => t.1), u.oneCell' = true := fun u hu => by
    obtain ⟨t, ht, hu⟩ := List.mem_flatMap.1 hu
    exact flowS.rd_one (hrr t ht) u hu
  have HRS := hide hrs; have HRD := hide hrd; have HRR := hide hrr; have HRL := hide hrl; have HONE := hide hone
  clear hrs hrd hrr hrl hone hok
  have hme := mApartFl
  go_enter Tryz.func183, Tryz.ntmps183
  go_wp2_with fail
  refine (implCloneFlow _ fl.length _ _ (by have := HRD.out; rw [← HRL.out] at this; exact this) HONE.out (by omega)).mono ?_; rintro e W5 ⟨vF, rfl, ho, hb⟩
  obtain ⟨ac, pc, rfl, qF1, qF2⟩ := owns_form ho
  have NHO := hide ho
  have NHB := hide hb
  obtain ⟨g9, hg9⟩ : ∃ n, W5.heap.size = n := ⟨_, rfl⟩
  have hug : w.heap.size ≤ g9 := by have := hb.size; omega
  have HVB : Hid (∀ q, (Value.slice ac fl.length pc).ownBlock = some q → w.heap.size ≤ q ∧ q < g9) := fun q hq => by have := owns_lt ho q hq; omega
  have hgW : Hid (g9 ≤ W5.heap.size) := Nat.le_of_eq hg9.symm
  clear ho hb hg9
  go_wp2_with fail
  have H0 : Hid (([] : List (List Value × FlD × List Nat)).map (fun t => t.2.1) = fl.take 0 ∧ (∀ t ∈ ([] : List (List Value × FlD × List Nat)), flowS.own W5 t.1 t.2.1 t.2.2) ∧ (([] : List (List Value × FlD × List Nat)).flatMap (fun t => t.2.2)).Nodup ∧ ∀ b ∈ ([] : List (List Value × FlD × List Nat)).flatMap (fun t => t.2.2), g9 ≤ b ∧ b < W5.heap.size) := ⟨by simp, fun t ht => (by cases ht), by simp, fun b hb => (by simp at hb)⟩
  have HO0 : Hid (W5.ownsRow w.heap.size 57 15 (.slice ac fl.length pc) fl.length (([] : List (List Value × FlD × List Nat)).flatMap (fun t => t.1) ++ (rs.drop 0).flatMap (fun t : List Value × FlD => t.1))) := by show World.ownsRow _ _ _ _ _ _ _; simpa using NHO.out
  go_loopw [10, 4, 5] (fun i _ _ wr => ∃ (k : Nat) (ts : List (List Value × FlD × List Nat)), i = .int .i64 (k : Int) ∧ k ≤ fl.length ∧ Hid (ts.map (fun t => t.2.1) = fl.take k ∧ (∀ t ∈ ts, flowS.own wr t.1 t.2.1 t.2.2) ∧ (ts.flatMap (fun t => t.2.2)).Nodup ∧ ∀ b ∈ ts.flatMap (fun t => t.2.2), g9 ≤ b ∧ b < wr.heap.size) ∧ Hid (wr.ownsRow w.heap.size 57 15 (.slice ac fl.length pc) fl.length (ts.flatMap (fun t => t.1) ++ (rs.drop k).flatMap (fun t : List Value × FlD => t.1))) ∧ Hid (Below w.heap.size w wr) ∧ Hid (g9 ≤ wr.heap.size)) (fun i _ _ _ => fl.length - (intOf i).toNat)
  case atStart => exact ⟨0, [], rfl, Nat.zero_le _, H0, HO0, NHB, hgW⟩
  case round =>
    clear H0 HO0 NHB hgW NHO
    obtain ⟨k, ts, rfl, hk, HT, HO, HB, HSR⟩ := hrel
    by_cases hlt : k < fl.length
    rotate_left
    · have hltI : ¬ (k : Int) < fl.length := by omega
      have hkn : k = fl.length := by omega
      have hfin : OwX flowS wr w.heap.size wr.heap.size (.slice ac fl.length pc) fl := by
        obtain ⟨t1, t2, t3, t4⟩ := HT.out
        have ho := HO.out
        rw [hkn, List.take_length] at t1
        rw [hkn, List.drop_eq_nil_of_le (by have := HRL.out; omega)] at ho
        have htl : ts.length = fl.length := by have := congrArg List.length t1; simpa using this
        have hsr := HSR.out
        refine ⟨_, ⟨ts, t1.symm, by have := owns_base (base' := 0) ho (fun _ _ => Nat.zero_le _); rw [htl]; simp only [List.flatMap_nil, List.append_nil] at this; exact this, t2, rfl⟩, nodup_mk (opt_nodup _) t3 fun b hb hb2 => ?_, fun b hb => ?_⟩
        · have h1 := HVB.out b (by cases hv : (Value.slice ac fl.length pc).ownBlock <;> simp [hv] at hb ⊢; exact hb.symm)
          have h2 := t4 b hb2
          omega
        · rcases List.mem_append.1 hb with e | e
          · have h1 := HVB.out b (by cases hv : (Value.slice ac fl.length pc).ownBlock <;> simp [hv] at e ⊢; exact e.symm)
            omega
          · have h2 := t4 b e; omega
      have HF := hide hfin
      clear hfin hkn
      go_wp2_with fail
      go_ret
      exact ⟨_, rfl, HF.out, HB.out⟩
    · have hltI : (k : Int) < fl.length := by omega
      have hkr : k < rs.length := by have := HRL.out; omega
      obtain ⟨vq, hx1, s0, s1, hfd⟩ := HRR.out _ (List.getElem_mem hkr)
      have hxk : fl[k] = rs[k].2 := by simp only [HRS.out]; simp
      have hfo := HFO.out fl[k] (List.getElem_mem hlt)
      have hdr : (rs.drop k).flatMap (fun t : List Value × FlD => t.1) = rs[k].1 ++ (rs.drop (k + 1)).flatMap (fun t : List Value × FlD => t.1) := by rw [List.drop_eq_getElem_cons hkr]; rfl
      rw [hx1] at hdr
      have htk : fl.take (k + 1) = fl.take k ++ [fl[k]] := List.take_succ_eq_append_getElem hlt
      rw [hxk] at hfo htk
      obtain ⟨x, hx⟩ : ∃ x, rs[k].2 = x := ⟨_, rfl⟩
      rw [hx] at hdr s0 s1 hfd hfo htk
      obtain ⟨aq, pq, rfl, _, _⟩ := hfd.form
      have ho := HO.out
      rw [hdr, ← List.append_assoc] at ho
      have htl : ts.length = k := by have := congrArg List.length HT.out.1; simp at this; omega
      have hA15 : (ts.flatMap (fun t : List Value × FlD × List Nat => t.1)).length = k * 15 := by
        rw [flat_len (fun t : List Value × FlD × List Nat => t.1) 15 ts (fun t ht => flowS.rd_len (flowS.own_rd (HT.out.2.1 t ht))), htl]
      obtain ⟨gf, cap2, SS, hvc, hob, hgl1, hgl2, _, _, hmid, hput⟩ := owns_mid ho (by simp)
      simp only [Value.slice.injEq, true_and] at hvc
      obtain ⟨rfl, rfl⟩ := hvc
      rw [hA15] at hmid hput
      have hvb := HVB.out gf rfl
      obtain ⟨hu, hdd, _, _⟩ := okTu_true hfo.2
      have hu2 := okPp_true hu
      have hd2 := okPp_true hdd
      have HXB : Hid (x.tun.up.b.size ≤ 1000000 ∧ x.tun.dn.b.size ≤ 1000000) := ⟨by omega, by omega⟩
      have HFS := hide hfo.1
      clear hu hdd hu2 hd2
      have HFD := hide (hfd.new HB.out)
      have HPUT := hide hput
      have HTK := hide htk
      have S0 := hide s0; have S1 := hide s1
      clear hx1 s0 s1 hfd hxk hfo hdr htk hx ho htl hA15 hput
      have c0 : wr.cell? ⟨gf, k * 15, none⟩ = some (.int .i64 x.id) := hmid.cell (j := 0) rfl
      have c1 : wr.cell? ⟨gf, k * 15 + 1, none⟩ = some (.int .i64 x.get) := hmid.cell (j := 1) rfl
      have c2 : wr.cell? ⟨gf, k * 15 + 2, none⟩ = some (.int .i64 x.give) := hmid.cell (j := 2) rfl
      have c3 : wr.cell? ⟨gf, k * 15 + 3, none⟩ = some (.slice aq x.fds.length pq) := hmid.cell (j := 3) rfl
      have c4 : wr.cell? ⟨gf, k * 15 + 4, none⟩ = some (.int .i64 x.tun.up.r) := hmid.cell (j := 4) rfl
      have c5 : wr.cell? ⟨gf, k * 15 + 5, none⟩ = some (.string x.tun.up.b) := hmid.cell (j := 5) rfl
      have c6 : wr.cell? ⟨gf, k * 15 + 6, none⟩ = some (.bool x.tun.up.e) := hmid.cell (j := 6) rfl
      have c7 : wr.cell? ⟨gf, k * 15 + 7, none⟩ = some (.bool x.tun.up.k) := hmid.cell (j := 7) rfl
      have c8 : wr.cell? ⟨gf, k * 15 + 8, none⟩ = some (.int .i64 x.tun.dn.r) := hmid.cell (j := 8) rfl
      have c9 : wr.cell? ⟨gf, k * 15 + 9, none⟩ = some (.string x.tun.dn.b) := hmid.cell (j := 9) rfl
      have c10 : wr.cell? ⟨gf, k * 15 + 10, none⟩ = some (.bool x.tun.dn.e) := hmid.cell (j := 10) rfl
      have c11 : wr.cell? ⟨gf, k * 15 + 11, none⟩ = some (.bool x.tun.dn.k) := hmid.cell (j := 11) rfl
      have c12 : wr.cell? ⟨gf, k * 15 + 12, none⟩ = some (.int .i64 x.tun.went) := hmid.cell (j := 12) rfl
      have c13 : wr.cell? ⟨gf, k * 15 + 13, none⟩ = some (.int .i64 x.tun.came) := hmid.cell (j := 13) rfl
      have c14 : wr.cell? ⟨gf, k * 15 + 14, none⟩ = some (.bool x.ended) := hmid.cell (j := 14) rfl
      go_upto_region 5 with fail
      have hX : Below wr.heap.size wr (wr.alloc (.cells #[.int .i64 x.id, .int .i64 x.get, .int .i64 x.give, .slice aq x.fds.length pq, .int .i64 x.tun.up.r, .string x.tun.up.b, .bool x.tun.up.e, .bool x.tun.up.k, .int .i64 x.tun.dn.r, .string x.tun.dn.b, .bool x.tun.dn.e, .bool x.tun.dn.k, .int .i64 x.tun.went, .int .i64 x.tun.came, .bool x.ended] 57)) := (Below.refl _ _).alloc (Nat.le_refl _) _
      have RX := rowIs_new wr 57 [.int .i64 x.id, .int .i64 x.get, .int .i64 x.give, .slice aq x.fds.length pq, .int .i64 x.tun.up.r, .string x.tun.up.b, .bool x.tun.up.e, .bool x.tun.up.k, .int .i64 x.tun.dn.r, .string x.tun.dn.b, .bool x.tun.dn.e, .bool x.tun.dn.k, .int .i64 x.tun.went, .int .i64 x.tun.came, .bool x.ended]
      have HM := hide (hmid.new hX)
      replace HFD := hide (HFD.out.new hX)
      replace HB := hide (bchain HB.out hX)
      have HTO : Hid (∀ t ∈ ts, flowS.own (wr.alloc (.cells #[.int .i64 x.id, .int .i64 x.get, .int .i64 x.give, .slice aq x.fds.length pq, .int .i64 x.tun.up.r, .string x.tun.up.b, .bool x.tun.up.e, .bool x.tun.up.k, .int .i64 x.tun.dn.r, .string x.tun.dn.b, .bool x.tun.dn.e, .bool x.tun.dn.k, .int .i64 x.tun.went, .int .i64 x.tun.came, .bool x.ended] 57)) t.1 t.2.1 t.2.2) := fun t ht => flowS.own_keep (HT.out.2.1 t ht) hX.size (fun b hb => hX.block b (flowS.own_lt (HT.out.2.1 t ht) b hb))
      have HTB : Hid (∀ b ∈ ts.flatMap (fun t : List Value × FlD × List Nat => t.2.2), g9 ≤ b ∧ b < (wr.alloc (.cells #[.int .i64 x.id, .int .i64 x.get, .int .i64 x.give, .slice aq x.fds.length pq, .int .i64 x.tun.up.r, .string x.tun.up.b, .bool x.tun.up.e, .bool x.tun.up.k, .int .i64 x.tun.dn.r, .string x.tun.dn.b, .bool x.tun.dn.e, .bool x.tun.dn.k, .int .i64 x.tun.went, .int .i64 x.tun.came, .bool x.ended] 57)).heap.size) := fun b hb => ⟨(HT.out.2.2.2 b hb).1, Nat.lt_of_lt_of_le (HT.out.2.2.2 b hb).2 hX.size⟩
      have HSR2 : Hid (g9 ≤ (wr.alloc (.cells #[.int .i64 x.id, .int .i64 x.get, .int .i64 x.give, .slice aq x.fds.length pq, .int .i64 x.tun.up.r, .string x.tun.up.b, .bool x.tun.up.e, .bool x.tun.up.k, .int .i64 x.tun.dn.r, .string x.tun.dn.b, .bool x.tun.dn.e, .bool x.tun.dn.k, .int .i64 x.tun.went, .int .i64 x.tun.came, .bool x.ended] 57)).heap.size) := Nat.le_trans HSR.out hX.size
      have HTN := hide HT.out.2.2.1
      have HTM := hide HT.out.1
      clear hX hmid HT HO HSR c0 c1 c2 c3 c4 c5 c6 c7 c8 c9 c10 c11 c12 c13 c14
      generalize wr.heap.size = ge at *
      generalize wr.alloc (.cells #[.int .i64 x.id, .int .i64 x.get, .int .i64 x.give, .slice aq x.fds.length pq, .int .i64 x.tun.up.r, .string x.tun.up.b, .bool x.tun.up.e, .bool x.tun.up.k, .int .i64 x.tun.dn.r, .string x.tun.dn.b, .bool x.tun.dn.e, .bool x.tun.dn.k, .int .i64 x.tun.went, .int .i64 x.tun.came, .bool x.ended] 57) = u1 at *
      have x0 := RX.cell (j := 0) rfl
      have x1 := RX.cell (j := 1) rfl
      have x2 := RX.cell (j := 2) rfl
      have x3 := RX.cell (j := 3) rfl
      have x4 := RX.cell (j := 4) rfl
      have x5 := RX.cell (j := 5) rfl
      have x6 := RX.cell (j := 6) rfl
      have x7 := RX.cell (j := 7) rfl
      have x8 := RX.cell (j := 8) rfl
      have x9 := RX.cell (j := 9) rfl
      have x10 := RX.cell (j := 10) rfl
      have x11 := RX.cell (j := 11) rfl
      have x12 := RX.cell (j := 12) rfl
      have x13 := RX.cell (j := 13) rfl
      have x14 := RX.cell (j := 14) rfl
      have xl := RX.lt
      go_wp2_with fail
      refine (implFlowApart x _ _ HFD.out HFS.out HXB.out.1 HXB.out.2).mono ?_; rintro e u2 ⟨vn, rfl, hon, hb2⟩
      obtain ⟨an, pn, rfl, _, _⟩ := owns_form hon
      clear x0 x1 x2 x3 x4 x5 x6 x7 x8 x9 x10 x11 x12 x13 x14 xl RX
      replace HM := hide (HM.out.new hb2)
      replace HB := hide (bchain HB.out hb2)
      have HTO2 : Hid (∀ t ∈ ts, flowS.own u2 t.1 t.2.1 t.2.2) := fun t ht => flowS.own_keep (HTO.out t ht) hb2.size (fun b hb => hb2.block b (flowS.own_lt (HTO.out t ht) b hb))
      have HON := hide hon
      have HZ2 := hide hb2.size
      have HGU : Hid (gf < u1.heap.size) := Nat.lt_of_lt_of_le hvb.2 HSR2.out
      clear hon hb2 HTO
      go_upto_region 6 with (refine wpList_store_mid (by rfl) 57 _ _ (by rfl) gf (k * 15) [.int .i64 x.id, .int .i64 x.get, .int .i64 x.give, .slice an x.fds.length pn, .int .i64 x.tun.up.r, .string x.tun.up.b, .bool x.tun.up.e, .bool x.tun.up.k, .int .i64 x.tun.dn.r, .string x.tun.dn.b, .bool x.tun.dn.e, .bool x.tun.dn.k, .int .i64 x.tun.went, .int .i64 x.tun.came, .bool x.ended] (by rfl) (by rfl) 57 _ _ _ HM.out (by kernel_rfl) rfl (by intro u hu; simp at hu; rcases hu with rfl | rfl | rfl | rfl | rfl | rfl | rfl | rfl | rfl | rfl | rfl | rfl | rfl | rfl | rfl <;> rfl) ?_; intro u3 hm3 ht3)
      have ho3 := HPUT.out u3 [.int .i64 x.id, .int .i64 x.get, .int .i64 x.give, .slice an x.fds.length pn, .int .i64 x.tun.up.r, .string x.tun.up.b, .bool x.tun.up.e, .bool x.tun.up.k, .int .i64 x.tun.dn.r, .string x.tun.dn.b, .bool x.tun.dn.e, .bool x.tun.dn.k, .int .i64 x.tun.went, .int .i64 x.tun.came, .bool x.ended] rfl hm3
      have hon := HON.out
      have hsr2 := HSR2.out
      have hz2 := HZ2.out
      have hgu := HGU.out
      have HON3 := owns_kept hon (w' := u3) (fun q hq hl => ht3.block q hl (by have := (owns_lt hon q hq).1; simp; omega))
      have HB3 := hide (below_turnB HB.out ht3 (by omega) HB.out.size)
      have hnb : ∀ b, (Value.slice an x.fds.length pn).ownBlock = some b → u1.heap.size ≤ b ∧ b < u3.heap.size := fun b hb => owns_lt HON3 b hb
      have hT3 : Hid ((ts ++ [(([.int .i64 x.id, .int .i64 x.get, .int .i64 x.give, .slice an x.fds.length pn, .int .i64 x.tun.up.r, .string x.tun.up.b, .bool x.tun.up.e, .bool x.tun.up.k, .int .i64 x.tun.dn.r, .string x.tun.dn.b, .bool x.tun.dn.e, .bool x.tun.dn.k, .int .i64 x.tun.went, .int .i64 x.tun.came, .bool x.ended] : List Value), x, (Value.slice an x.fds.length pn).ownBlock.toList)]).map (fun t : List Value × FlD × List Nat => t.2.1) = fl.take (k + 1) ∧ (∀ t ∈ ts ++ [(([.int .i64 x.id, .int .i64 x.get, .int .i64 x.give, .slice an x.fds.length pn, .int .i64 x.tun.up.r, .string x.tun.up.b, .bool x.tun.up.e, .bool x.tun.up.k, .int .i64 x.tun.dn.r, .string x.tun.dn.b, .bool x.tun.dn.e, .bool x.tun.dn.k, .int .i64 x.tun.went, .int .i64 x.tun.came, .bool x.ended] : List Value), x, (Value.slice an x.fds.length pn).ownBlock.toList)], flowS.own u3 t.1 t.2.1 t.2.2) ∧ ((ts ++ [(([.int .i64 x.id, .int .i64 x.get, .int .i64 x.give, .slice an x.fds.length pn, .int .i64 x.tun.up.r, .string x.tun.up.b, .bool x.tun.up.e, .bool x.tun.up.k, .int .i64 x.tun.dn.r, .string x.tun.dn.b, .bool x.tun.dn.e, .bool x.tun.dn.k, .int .i64 x.tun.went, .int .i64 x.tun.came, .bool x.ended] : List Value), x, (Value.slice an x.fds.length pn).ownBlock.toList)]).flatMap (fun t : List Value × FlD × List Nat => t.2.2)).Nodup ∧ ∀ b ∈ (ts ++ [(([.int .i64 x.id, .int .i64 x.get, .int .i64 x.give, .slice an x.fds.length pn, .int .i64 x.tun.up.r, .string x.tun.up.b, .bool x.tun.up.e, .bool x.tun.up.k, .int .i64 x.tun.dn.r, .string x.tun.dn.b, .bool x.tun.dn.e, .bool x.tun.dn.k, .int .i64 x.tun.went, .int .i64 x.tun.came, .bool x.ended] : List Value), x, (Value.slice an x.fds.length pn).ownBlock.toList)]).flatMap (fun t : List Value × FlD × List Nat => t.2.2), g9 ≤ b ∧ b < u3.heap.size) := by
        refine ⟨by rw [List.map_append, HTM.out, HTK.out]; rfl, fun t ht => ?_, ?_, fun b hb => ?_⟩
        · rcases List.mem_append.1 ht with e | e
          · refine flowS.own_keep (HTO2.out t e) ht3.size (fun b hb => ht3.block b (flowS.own_lt (HTO2.out t e) b hb) ?_)
            have := (HTB.out b (List.mem_flatMap.2 ⟨t, e, hb⟩)).1
            simp; omega
          · simp at e
            subst e
            exact ⟨.slice an x.fds.length pn, _, rfl, S0.out, S1.out, fv_owr (owns_base HON3 (fun _ _ => Nat.zero_le _)) (fun f hf => fine_of (by have := HFS.out; unfold okFs at this; simp only [Bool.and_eq_true] at this; exact List.all_eq_true.1 this.1 f hf)), rfl⟩
        · rw [List.flatMap_append]
          refine nodup_mk HTN.out (by simpa using opt_nodup _) fun b hb hb2 => ?_
          have h1 := (HTB.out b hb).2
          simp only [List.flatMap_cons, List.flatMap_nil, List.append_nil] at hb2
          have h2 := (hnb b (by cases hv : (Value.slice an x.fds.length pn).ownBlock <;> simp [hv] at hb2 ⊢; exact hb2.symm)).1
          omega
        · rw [List.flatMap_append] at hb
          rcases List.mem_append.1 hb with e | e
          · have := HTB.out b e; have := ht3.size; omega
          · simp only [List.flatMap_cons, List.flatMap_nil, List.append_nil] at e
            have h2 := hnb b (by cases hv : (Value.slice an x.fds.length pn).ownBlock <;> simp [hv] at e ⊢; exact e.symm)
            omega
      have HO3 : Hid (u3.ownsRow w.heap.size 57 15 (.slice (some ⟨gf, 0, none⟩) fl.length pc) fl.length ((ts ++ [(([.int .i64 x.id, .int .i64 x.get, .int .i64 x.give, .slice an x.fds.length pn, .int .i64 x.tun.up.r, .string x.tun.up.b, .bool x.tun.up.e, .bool x.tun.up.k, .int .i64 x.tun.dn.r, .string x.tun.dn.b, .bool x.tun.dn.e, .bool x.tun.dn.k, .int .i64 x.tun.went, .int .i64 x.tun.came, .bool x.ended] : List Value), x, (Value.slice an x.fds.length pn).ownBlock.toList)]).flatMap (fun t : List Value × FlD × List Nat => t.1) ++ (rs.drop (k + 1)).flatMap (fun t : List Value × FlD => t.1))) := by
        show World.ownsRow _ _ _ _ _ _ _
        rw [List.flatMap_append]
        simpa using ho3
      have hs3 : Hid (g9 ≤ u3.heap.size) := by show _ ≤ _; have := ht3.size; omega
      clear hm3 ho3 HON3 HM HB hnb ht3 hon hsr2 hz2 hgu HON HZ2 HGU HSR2
      go_wp2_with fail
      go_roundw
      case rel => exact ⟨k + 1, _, by go_num, by omega, hT3, HO3, HB3, hs3⟩
      case measure => simp [intOf]; omega
end Go.Proofs.YtfmeinkhdgbgjaaGreat
/- The program's link: what is told; what happens to a stream; where a stream's Flow stands. -/
namespace Go.Proofs.YtfmeinkhdgbgjaaGreat
open Go.RowKit
set_option maxRecDepth 100000
set_option linter.unusedSimpArgs false
set_option linter.unusedVariables false
theorem implState (lo g : Nat) (d : CnD) (L : List Fr) (bs : List Nat) (id : Int) (w : World) (h : LkM w lo g d L bs) (hs : okRg d.reg = true) :
    Calls Tryz.prog 76 #[.pointer (some ⟨g, 0, none⟩), .int .i64 id] w fun x w' => x = .returned (.int .i64 (stateD d.reg id)) ∧ Below w.heap.size w w' := by
  obtain ⟨⟨ve, vi, vo, vf, tv, cb, hrow, hc, h3, h4, h5⟩, hl, hlo, hng, hbs⟩ := h
  obtain ⟨ad, cap, rfl, _, _⟩ := hc.rd.e.form
  have hst : stateP d.reg id = stateD d.reg id := by unfold stateP; rw [if_pos hs]
  have HE := hide hc.rd.e
  have x0 := RowIs.cell (j := 0) hrow rfl
  have x1 := RowIs.cell (j := 1) hrow rfl
  have x2 := RowIs.cell (j := 2) hrow rfl
  clear hrow hc h3 h4 h5 hl hlo hng hbs
  go_enter Tryz.func76, Tryz.ntmps76
  go_wp2_with fail
  refine (implStateOf d.reg _ id _ HE.out).mono ?_; rw [hst]; rintro x w1 ⟨rfl, hb⟩
  go_wp2_with fail
  go_ret
  exact ⟨rfl, hb⟩
theorem implMaySendL (lo g : Nat) (d : CnD) (L : List Fr) (bs : List Nat) (id : Int) (w : World) (h : LkM w lo g d L bs) (hs : okRg d.reg = true) :
    Calls Tryz.prog 90 #[.pointer (some ⟨g, 0, none⟩), .int .i64 id] w fun x w' => x = .returned (.bool (msV (stateD d.reg id))) ∧ Below w.heap.size w w' := by
  go_enter Tryz.func90, Tryz.ntmps90
  go_wp2_with fail
  refine (implState lo g d L bs id _ h hs).mono ?_; rintro x w1 ⟨rfl, hb⟩
  go_wp2_with fail
  refine (implMaySend _ _).mono ?_; rintro x w2 ⟨rfl, hb2⟩
  go_wp2_with fail
  go_ret
  exact ⟨rfl, bchain hb hb2⟩
theorem implFlowSome (lo g : Nat) (d : CnD) (L : List Fr) (bs : List Nat) (id : Int) (k gf cap : Nat) (w : World) (h : LkM w lo g d L bs) (hlen : d.flows.length = d.reg.es.length) (h60 : d.reg.es.length ≤ 60) (ha : atE d.reg.es id = some k) (hx : w.cell? ⟨g, 10, none⟩ = some (.slice (some ⟨gf, 0, none⟩) d.flows.length cap)) :
    Calls Tryz.prog 74 #[.pointer (some ⟨g, 0, none⟩), .int .i64 id] w fun x w' => x = .returned (.pointer (some ⟨gf, k * 15, none⟩)) ∧ Below w.heap.size w w' := by
  obtain ⟨⟨ve, vi, vo, vf, tv, cb, hrow, hc, h3, h4, h5⟩, hl, hlo, hng, hbs⟩ := h
  obtain ⟨ad, cp, rfl, _, _⟩ := hc.rd.e.form
  have HE := hide hc.rd.e
  have x0 := RowIs.cell (j := 0) hrow rfl
  have x1 := RowIs.cell (j := 1) hrow rfl
  have x2 := RowIs.cell (j := 2) hrow rfl
  have hgl := hrow.lt
  obtain ⟨hk, _, _⟩ := atE_some ha
  have hi : atI d.reg.es id = k := by unfold atI; rw [ha]
  clear hrow hc h3 h4 h5 hl hlo hng hbs
  go_enter Tryz.func74, Tryz.ntmps74
  go_wp2_with fail
  refine (implPlace d.reg id _ _ HE.out h60).mono ?_; rw [hi]; rintro x w1 ⟨rfl, hb⟩
  have y10 := (hb.cell (p := ⟨g, 10, none⟩) hgl).trans hx
  have hkI : (k : Int) < d.flows.length := by omega
  have hk0 : ¬ (k : Int) < 0 := by omega
  clear x0 x1 x2 hx hi ha hlen h60 HE
  go_wp2_with fail
  go_ret
  exact ⟨rfl, hb⟩
end Go.Proofs.YtfmeinkhdgbgjaaGreat
