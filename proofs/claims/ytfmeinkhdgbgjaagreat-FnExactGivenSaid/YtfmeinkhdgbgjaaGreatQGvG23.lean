/- Several small texts of one level, one behind the other. -/
import Derived.Test.YtfmeinkhdgbgjaaGreatQGvG17
import Derived.Test.YtfmeinkhdgbgjaaGreatQGvConnSpec4
import Derived.Test.YtfmeinkhdgbgjaaGreatQGvG7
import Derived.Test.YtfmeinkhdgbgjaaGreatQGvG6
import Derived.Test.YtfmeinkhdgbgjaaGreatQGvG2
import Derived.Deep.RegionHeld3
import Derived.Deep.Cut
import Derived.Deep.DeepCutAuto
import Derived.Deep.QuietTactic
import Derived.Test.YtfmeinkhdgbgjaaGreatQGvG19
/- Chapter 17's model in place: given to a stream. -/
namespace Go.Proofs.YtfmeinkhdgbgjaaGreat
open Go.RowKit
set_option maxRecDepth 100000
set_option linter.unusedSimpArgs false
set_option linter.unusedVariables false
theorem backM (t : TuD) (s : ByteArray) (fin : Bool) (g ot : Nat) (ty : TypeId) (A C : List Value) (w : World) (R : MidIs w g ty A C ot (tucs t)) (hk : okTu t = true) (hs : s.size ≤ 1048576) :
    Calls Tryz.prog 170 #[.pointer (some ⟨g, ot, none⟩), .string s, .bool fin] w fun x w' => x = .returned (.int .i64 (bckTu t s fin).2) ∧ MidIs w' g ty A C ot (tucs (bckTu t s fin).1) ∧ Turn g (g + 1) w w' := by
  have hpd := okPp_true (okTu_true hk).2.1
  obtain ⟨⟨r, b, e, k⟩, ⟨r2, b2, e2, k2⟩, wt, cm⟩ := t
  dsimp only at hpd
  have hnk : ¬ okTu ⟨⟨r, b, e, k⟩, ⟨r2, b2, e2, k2⟩, wt, cm⟩ = false := by rw [hk]; decide
  have hx0 : s.extract 0 0 = ⟨#[]⟩ := by simp; rfl
  have hs2 : s.size ≤ maxLen := by unfold maxLen; omega
  cases k2
  rotate_left
  · have hv : bckTu ⟨⟨r, b, e, k⟩, ⟨r2, b2, e2, true⟩, wt, cm⟩ s fin = (⟨⟨r, b, e, k⟩, ⟨r2, b2, e2, true⟩, wt, cm⟩, 0) := by unfold bckTu bckN; rw [if_neg hnk]; simp [hx0]
    rw [hv]
    exact l16Back_kM r b e k r2 b2 e2 wt cm s fin g ot ty A C w R hs2
  cases e2
  rotate_left
  · have hv : bckTu ⟨⟨r, b, e, k⟩, ⟨r2, b2, true, false⟩, wt, cm⟩ s fin = (⟨⟨r, b, e, k⟩, ⟨r2, b2, true, false⟩, wt, cm⟩, 0) := by unfold bckTu bckN; rw [if_neg hnk]; simp [hx0]
    rw [hv]
    exact l16Back_eM r b e k r2 b2 wt cm s fin g ot ty A C w R hs2
  obtain ⟨n, hn⟩ : ∃ n, comes r2 b2 s = n := ⟨_, rfl⟩
  have hn2 : min (s.size : Int) (r2 - b2.size) = n := by rw [← hn]; unfold comes; omega
  have hv : bckTu ⟨⟨r, b, e, k⟩, ⟨r2, b2, false, false⟩, wt, cm⟩ s fin = (⟨⟨r, b, e, k⟩, ⟨r2, b2 ++ s.extract 0 n, fin && decide (n = s.size), false⟩, wt, cm⟩, (n : Int)) := by unfold bckTu bckN; rw [if_neg hnk]; simp [hn]
  rw [hv]
  exact l16Back_oM r b e k r2 b2 wt cm s fin g ot ty A C w R hs (by omega) (by omega) n hn2
theorem bck_size {t : TuD} {s : ByteArray} {fin : Bool} (hk : okTu t = true) (hs : s.size ≤ 1048576) (h1 : t.up.b.size ≤ 9223372036854775807) : (bckTu t s fin).1.up.b.size ≤ 9223372036854775807 ∧ (bckTu t s fin).1.dn.b.size ≤ 9223372036854775807 := by
  have hpd := okPp_true (okTu_true hk).2.1
  unfold bckTu
  rw [if_neg (by rw [hk]; decide)]
  refine ⟨h1, ?_⟩
  show (t.dn.b ++ s.extract 0 (bckN t s)).size ≤ _
  rw [ByteArray.size_append, ByteArray.size_extract]
  omega
set_option maxHeartbeats 2000000 in
theorem givenM (g : Nat) (d : CnD) (bs : List Nat) (id : Int) (s : ByteArray) (fin : Bool) (w : World) (h : CnM w g d bs) (hF : d.flows.length = d.reg.es.length) (h60 : d.reg.es.length ≤ 1000) (hs : s.size ≤ 1048576) (hok : ∀ f ∈ d.flows, okTu f.tun = true) :
    Calls Tryz.prog 89 #[.pointer (some ⟨g, 0, none⟩), .int .i64 id, .string s, .bool fin] w fun x w' => x = .returned (.int .i64 (givenRaw d id s fin).2) ∧ CnM w' g (givenRaw d id s fin).1 bs ∧ TurnB (g :: bs) w w' := by
  have hgl := h.lt
  have HC := hide h
  obtain ⟨⟨ve, vi, vo, vf, hrow, hcw⟩, _⟩ := h
  have x0 := RowIs.cell (j := 0) hrow rfl
  have x1 := RowIs.cell (j := 1) hrow rfl
  have x2 := RowIs.cell (j := 2) hrow rfl
  have HROW := hide hrow
  have HRE := hide hcw.rd.e
  obtain ⟨ae, pe, eve, hae, _⟩ := hcw.rd.e.form
  subst eve
  clear hrow hcw
  have hc := fun u hu => specAt d.reg id (.slice ae d.reg.es.length pe) u hu
  cases hat : atE d.reg.es id with
  | none =>
    have hI : atI d.reg.es id = -1 := by unfold atI; rw [hat]
    rw [hI] at hc
    rw [given_none hat]
    clear hI hat
    go_enter Tryz.func89, Tryz.ntmps89
    go_wp2_with fail
    refine (hc _ HRE.out).mono ?_; rintro x w1 ⟨rfl, hb1⟩
    go_wp2_with fail
    go_ret
    exact ⟨rfl, HC.out.new hb1, TurnB.new hb1⟩
  | some k =>
    obtain ⟨hk, _, _⟩ := atE_some hat
    have hI : atI d.reg.es id = k := atI_some hat
    rw [hI] at hc
    have hkf : k < d.flows.length := by omega
    rw [given_some hat hkf hk]
    have hkt := hok d.flows[k] (List.getElem_mem hkf)
    clear hI hat hok
    have hfle : d.flows.length ≤ 1000 := by omega
    cases hdead : d.dead
    rotate_left
    · rw [if_pos (.inl rfl)]
      go_enter Tryz.func89, Tryz.ntmps89
      go_wp2_with fail
      refine (hc _ HRE.out).mono ?_; clear hc; rintro x w1 ⟨rfl, hb1⟩
      have x12 := RowIs.cell (j := 12) (HROW.out.new hb1) rfl
      rw [hdead] at x12
      go_wp2_with fail
      go_ret
      exact ⟨rfl, HC.out.new hb1, TurnB.new hb1⟩
    cases hms : msV d.reg.es[k].state
    · rw [if_pos (.inr rfl)]
      go_enter Tryz.func89, Tryz.ntmps89
      go_wp2_with fail
      refine (hc _ HRE.out).mono ?_; clear hc; rintro x w1 ⟨rfl, hb1⟩
      have x12 := RowIs.cell (j := 12) (HROW.out.new hb1) rfl
      have y2 := RowIs.cell (j := 2) (HROW.out.new hb1) rfl
      rw [hdead] at x12
      obtain ⟨b, o, cs, rfl, hbw, hrd, hce⟩ := (HRE.out.new hb1).at k hk
      obtain rfl := hrd
      have ce : w1.cell? ⟨b, o + k * 2 + 1, none⟩ = some (.int .i64 d.reg.es[k].state) := hce 1 _ rfl
      have hkI : (k : Int) < d.reg.es.length := by omega
      clear hce
      go_wp2_with fail
      have hm := specMaySend d.reg.es[k].state w1
      rw [hms] at hm
      refine hm.mono ?_; rintro e w2 ⟨rfl, hsame⟩; obtain rfl := hsame.symm; clear hsame
      go_wp2_with fail
      go_ret
      exact ⟨rfl, HC.out.new hb1, TurnB.new hb1⟩
    rw [if_neg (by simp)]
    go_enter Tryz.func89, Tryz.ntmps89
    go_wp2_with fail
    refine (hc _ HRE.out).mono ?_; clear hc; rintro x w1 ⟨rfl, hb1⟩
    have x12 := RowIs.cell (j := 12) (HROW.out.new hb1) rfl
    have y2 := RowIs.cell (j := 2) (HROW.out.new hb1) rfl
    rw [hdead] at x12
    obtain ⟨b, o, cs, rfl, hbw, hrd, hce⟩ := (HRE.out.new hb1).at k hk
    obtain rfl := hrd
    have ce : w1.cell? ⟨b, o + k * 2 + 1, none⟩ = some (.int .i64 d.reg.es[k].state) := hce 1 _ rfl
    have hkI : (k : Int) < d.reg.es.length := by omega
    have hkJ : (k : Int) < d.flows.length := by omega
    clear hce
    have HT : Hid (TurnB (g :: bs) w w1) := TurnB.new hb1
    replace HC := hide (HC.out.new hb1)
    obtain ⟨gf, A, C, qe, qi, qo, cap, hrow, hgm, hgfl, hmid, s1, s2, hput⟩ := HC.out.tun k hkf
    have x10 := RowIs.cell (j := 10) hrow rfl
    have HM := hide hmid
    have HP := hide hput
    clear hrow hmid hput hb1 HROW HRE
    go_wp2_with fail
    have hm := specMaySend d.reg.es[k].state w1
    rw [hms] at hm
    refine hm.mono ?_; rintro e w2 ⟨rfl, hsame⟩; obtain rfl := hsame.symm; clear hsame
    go_wp2_with fail
    refine (backM d.flows[k].tun s fin gf (k * 15 + 4) _ A C _ HM.out hkt hs).mono ?_
    rintro x w3 ⟨rfl, hm3, ht3⟩
    have hsz := bck_size hkt hs s1 (fin := fin)
    have HC3 := hide (HP.out w3 _ hsz.1 hsz.2 hm3 (turnB_of ht3))
    have HT3 := hide (HT.out.trans ((turnB_of ht3).wide (fun x hx => by simp at hx; subst hx; simp [hgm])))
    clear hm3 ht3 HM HP
    go_wp2_with fail
    go_ret
    have hfin := HC3.out
    rw [hdead] at hfin
    exact ⟨rfl, hfin, HT3.out⟩
end Go.Proofs.YtfmeinkhdgbgjaaGreat
/- A Conn in a block: its windows set, another table, one more Flow. -/
namespace Go.Proofs.YtfmeinkhdgbgjaaGreat
open Go.RowKit
set_option maxRecDepth 100000
set_option linter.unusedSimpArgs false
set_option linter.unusedVariables false
section
variable {D : Type} {E : Shp D}
/-- A row that is owned, opened for an append: what the append leaves, block by block. -/
theorem OwR.grow {w : World} {v : Value} {L : List D} {bs : List Nat} (h : OwR E w v L bs) (hn : bs.Nodup) : ∃ xs, w.ownsRow 0 E.ty E.size v L.length xs ∧
    ∀ (w1 : World) (v' : Value) (cs : List Value) (x : D) (b : List Nat), E.own w cs x b → b.Nodup → (∀ q ∈ b, q ∉ bs) → w1.ownsRow 0 E.ty E.size v' (L.length + 1) (xs ++ cs) → w.grownBy w1 v.ownBlock → (v'.ownBlock = v.ownBlock ∨ v'.ownBlock = some w.heap.size) →
      ∃ bs', OwR E w1 v' (L ++ [x]) bs' ∧ bs'.Nodup ∧ ∀ q ∈ bs', q ∈ bs ∨ q ∈ b ∨ q = w.heap.size := by
  obtain ⟨ts, hL, ho, hE, rfl⟩ := h
  have hlen : L.length = ts.length := by rw [hL]; simp
  refine ⟨ts.flatMap (·.1), by rw [hlen]; exact ho, fun w1 v' cs x b hx hbn hbd ho' hg hat => ?_⟩
  have hap := nodup_apart hn
  have hlt2 := E.own_lt hx
  have hkeep : ∀ x, x < w.heap.size → (∀ g, v.ownBlock = some g → x ≠ g) → w1.heap[x]? = w.heap[x]? := fun x hx hne => hg.block x hx (fun e => by
    cases hv : v.ownBlock with
    | none => rw [hv] at e; simp at e
    | some g => rw [hv] at e; simp at e; exact hne g hv e)
  have hlt1 : ∀ q ∈ ts.flatMap (·.2.2), q < w.heap.size := fun q hq => by
    obtain ⟨t, ht, hq⟩ := List.mem_flatMap.1 hq
    exact E.own_lt (hE t ht) q hq
  refine ⟨v'.ownBlock.toList ++ (ts.flatMap (·.2.2) ++ b), ⟨ts ++ [(cs, x, b)], by simp [hL], by rw [hlen] at ho'; simpa using ho', fun t ht => ?_, by simp⟩, ?_, ?_⟩
  · rcases List.mem_append.1 ht with ht | ht
    · refine E.own_keep (hE t ht) hg.size fun x hx => ?_
      have hx' : x ∈ ts.flatMap (·.2.2) := List.mem_flatMap.2 ⟨t, ht, hx⟩
      exact hkeep x (E.own_lt (hE t ht) x hx) fun g hgv e => hap g (by simp [hgv]) (e ▸ hx')
    · simp at ht
      subst ht
      exact E.own_keep hx hg.size fun y hy => hkeep y (hlt2 y hy) fun g hgv e => hbd y hy (by subst e; simp [hgv])
  · refine nodup_mk (opt_nodup _) (nodup_mk (nodup_right hn) hbn fun y hy hy2 => hbd y hy2 (by simp [hy])) fun y hy hy2 => ?_
    have hyv : v'.ownBlock = some y := by cases hv : v'.ownBlock <;> simp [hv] at hy ⊢; exact hy.symm
    rcases hat with e | e
    · have hyo := e ▸ hyv
      rcases List.mem_append.1 hy2 with h | h
      · exact hap y (by simp [hyo]) h
      · exact hbd y h (by simp [hyo])
    · have hys : y = w.heap.size := by rw [hyv] at e; exact Option.some.inj e
      rcases List.mem_append.1 hy2 with h | h
      · have := hlt1 y h; omega
      · have := hlt2 y h; omega
  · intro q hq
    rcases List.mem_append.1 hq with hq | hq
    · have hyv : v'.ownBlock = some q := by cases hv : v'.ownBlock <;> simp [hv] at hq ⊢; exact hq.symm
      rcases hat with e | e
      · exact .inl (by simp [e ▸ hyv])
      · exact .inr (.inr (by rw [hyv] at e; exact Option.some.inj e))
    · rcases List.mem_append.1 hq with h | h
      · exact .inl (by simp [h])
      · exact .inr (.inl h)
end
theorem CnM.keepSet {w : World} {g : Nat} {bs : List Nat} {p : Addr} (h3 : g ∉ bs) (hp : p.block = g) (v : Value) : ∀ b ∈ bs, (w.setCell p v).heap[b]? = w.heap[b]? := fun b hb => Below.heap_setCell w _ _ b (fun e => h3 (by have e' : b = g := e.trans hp; rw [← e']; exact hb))
theorem CnM.setGive {w : World} {g : Nat} {d : CnD} {bs : List Nat} (h : CnM w g d bs) (n : Int) : CnM (w.setCell ⟨g, 8, none⟩ (.int .i64 n)) g { d with give := n } bs := by
  obtain ⟨⟨ve, vi, vo, vf, h1, h2⟩, h3⟩ := h
  refine ⟨⟨ve, vi, vo, vf, h1.set 8 (.int .i64 n), ?_⟩, h3⟩
  obtain ⟨hx, hn⟩ := h2.keep (w' := w.setCell ⟨g, 8, none⟩ (.int .i64 n)) (by simp) (CnM.keepSet h3 rfl _)
  exact ⟨hx, hn⟩
theorem CnM.lts {w : World} {g : Nat} {d : CnD} {bs : List Nat} (h : CnM w g d bs) : ∀ b ∈ g :: bs, b < w.heap.size := fun b hb => by
  rcases List.mem_cons.1 hb with rfl | hb
  · exact h.lt
  · obtain ⟨⟨_, _, _, _, _, hc⟩, _⟩ := h
    exact hc.lt _ hb
/-- The Flows of a Conn in place, opened for an append. -/
theorem CnM.grow {w : World} {g : Nat} {d : CnD} {bs : List Nat} (h : CnM w g d bs) :
    ∃ ve vi vo a p xs, RowIs w g 32 (cncs d ve vi vo (.slice a d.flows.length p)) ∧ w.ownsRow 0 57 15 (.slice a d.flows.length p) d.flows.length xs ∧ (∀ q, (Value.slice a d.flows.length p).ownBlock = some q → q ∈ bs) ∧
      ∀ (w1 : World) (v' : Value) (f : FlD) (vq : Value) (b : List Nat), flowS.own w (flcs f vq) f b → b.Nodup → (∀ q ∈ b, q ∉ g :: bs) → w1.ownsRow 0 57 15 v' (d.flows.length + 1) (xs ++ flcs f vq) → w.grownBy w1 (Value.slice a d.flows.length p).ownBlock → (v'.ownBlock = (Value.slice a d.flows.length p).ownBlock ∨ v'.ownBlock = some w.heap.size) →
        ∃ bs', CnM (w1.setCell ⟨g, 10, none⟩ v') g { d with flows := d.flows ++ [f] } bs' ∧ ∀ q ∈ bs', q ∈ bs ∨ q ∈ b ∨ q = w.heap.size := by
  have hlts := h.lts
  obtain ⟨⟨ve, vi, vo, vf, hrow, ⟨be, bi, bo, bf, h1, h2, h3, h4, rfl⟩, hn⟩, hng⟩ := h
  obtain ⟨a, p, hvf, _, _⟩ := h4.rd.form
  subst hvf
  have hnf : bf.Nodup := nodup_right hn
  obtain ⟨xs, hxs, hgrow⟩ := h4.grow hnf
  have hvb : ∀ q, (Value.slice a d.flows.length p).ownBlock = some q → q ∈ bf := fun q hq => by
    obtain ⟨ts, _, _, _, rfl⟩ := h4
    simp [hq]
  refine ⟨ve, vi, vo, a, p, xs, hrow, hxs, fun q hq => by simp [hvb q hq], fun w1 v' f vq b hx hbn hbd ho' hg hat => ?_⟩
  obtain ⟨bf', hO, hn', hsub⟩ := hgrow w1 v' (flcs f vq) f b hx hbn (fun q hq hq2 => hbd q hq (by simp [hq2])) ho' hg hat
  have hk1 : ∀ x, x < w.heap.size → x ∉ bf → w1.heap[x]? = w.heap[x]? := fun x hx hx2 => hg.block x hx (fun e => hx2 (hvb x e.symm))
  have hgb : g ∉ bf := fun e => hng (by simp [e])
  have hap : ∀ x ∈ be ++ bi ++ bo, x ∉ bf := nodup_apart hn
  have hgl : g < w.heap.size := hlts g (by simp)
  have hgs : (w1.setCell ⟨g, 10, none⟩ v').heap.size = w1.heap.size := by simp
  have hk2 : ∀ x, x ≠ g → (w1.setCell ⟨g, 10, none⟩ v').heap[x]? = w1.heap[x]? := fun x hx => Below.heap_setCell _ _ _ x (show x ≠ g from hx)
  have hk3 : ∀ x ∈ be ++ bi ++ bo, (w1.setCell ⟨g, 10, none⟩ v').heap[x]? = w.heap[x]? := fun x hx => (hk2 x (fun e => hng (by rw [← e]; exact List.mem_append_left _ hx))).trans (hk1 x (hlts x (by simp only [List.mem_cons, List.mem_append] at hx ⊢; rcases hx with (hx | hx) | hx <;> simp [hx])) (hap x hx))
  have hgf : g ∉ bf' := fun e => by
    rcases hsub g e with e | e | e
    · exact hgb e
    · exact hbd g e (by simp)
    · omega
  have hs : w.heap.size ≤ (w1.setCell ⟨g, 10, none⟩ v').heap.size := by rw [hgs]; exact hg.size
  have hrow1 : RowIs w1 g 32 (cncs d ve vi vo (.slice a d.flows.length p)) := hrow.kept (hk1 g hgl hgb)
  refine ⟨be ++ bi ++ bo ++ bf', ⟨⟨ve, vi, vo, v', hrow1.set 10 v', ⟨be, bi, bo, bf', h1.keep hs (fun b hb => hk3 b (by simp [hb])), h2.keep hs (fun b hb => hk3 b (by simp [hb])), h3.keep hs (fun b hb => hk3 b (by simp [hb])), hO.keep (by simp) (fun b hb => hk2 b (fun e => hgf (e ▸ hb))), rfl⟩, ?_⟩, ?_⟩, ?_⟩
  · refine nodup_mk (nodup_left hn) hn' fun x hx hx2 => ?_
    rcases hsub x hx2 with e | e | e
    · exact hap x hx e
    · exact hbd x e (List.mem_cons_of_mem _ (List.mem_append_left _ hx))
    · have := hlts x (List.mem_cons_of_mem _ (List.mem_append_left _ hx)); omega
  · intro e
    rcases List.mem_append.1 e with e | e
    · exact hng (List.mem_append_left _ e)
    · exact hgf e
  · intro q hq
    rcases List.mem_append.1 hq with e | e
    · exact .inl (List.mem_append_left _ e)
    · rcases hsub q e with e | e | e
      · exact .inl (List.mem_append_right _ e)
      · exact .inr (.inl e)
      · exact .inr (.inr e)
end Go.Proofs.YtfmeinkhdgbgjaaGreat
