/- Several small texts of one level, one behind the other. -/
import Derived.Test.YtfmeinkhdgbgjaaGreatQTkG18
import Derived.Test.YtfmeinkhdgbgjaaGreatQTkG4
import Derived.Test.YtfmeinkhdgbgjaaGreatQTkG8
import Derived.Test.YtfmeinkhdgbgjaaGreatQTkSB
import Derived.Test.YtfmeinkhdgbgjaaGreatQTkG6
import Derived.Test.YtfmeinkhdgbgjaaGreatQTkG2
import Derived.Test.YtfmeinkhdgbgjaaGreatQTkG9
import Derived.Test.YtfmeinkhdgbgjaaGreatQTkG5
import Derived.Lib.SmallJoins
import Derived.OpenShut
import Derived.ChangeOld
/- One element of a row in place: its cells in the midst of the row's block, and the row behind a change of them. A Conn in a block. -/
namespace Go.Proofs.YtfmeinkhdgbgjaaGreat
open Go.RowKit
set_option maxRecDepth 100000
set_option linter.unusedSimpArgs false
set_option linter.unusedVariables false
section
variable {D : Type} {E : Shp D}
theorem OwR.mid {w : World} {v : Value} {L : List D} {bs : List Nat} (h : OwR E w v L bs) (hn : bs.Nodup) (k : Nat) (hk : k < L.length) :
    ∃ g cap cs b A C, v = .slice (some ⟨g, 0, none⟩) L.length cap ∧ g < w.heap.size ∧ g ∈ bs ∧ g ∉ b ∧ (∀ x ∈ b, x ∈ bs) ∧ E.own w cs L[k] b ∧ RowIs w g E.ty (A ++ cs ++ C) ∧ A.length = k * E.size ∧
      ∀ w' cs' d', RowIs w' g E.ty (A ++ cs' ++ C) → E.own w' cs' d' b → w.heap.size ≤ w'.heap.size → (∀ x ∈ bs, x ≠ g → w'.heap[x]? = w.heap[x]?) → OwR E w' v (L.set k d') bs := by
  obtain ⟨ts, rfl, ho, hE, rfl⟩ := h
  have hk' : k < ts.length := by simpa using hk
  have hm := List.getElem_mem hk'
  have hlen : ∀ t ∈ ts, t.1.length = E.size := fun t ht => E.rd_len (E.own_rd (hE t ht))
  have hap := nodup_apart hn
  obtain ⟨hl, hr⟩ := ho
  rcases hr with ⟨hv, h0⟩ | ⟨g, cap, arr, hv, hb0, hheap, h1, h2, h3, h4⟩
  · omega
  have hg : v.ownBlock = some g := by rw [hv]; rfl
  have hgb : g ∈ v.ownBlock.toList := by rw [hg]; simp
  have hsub : ∀ x ∈ ts[k].2.2, x ∈ ts.flatMap (·.2.2) := fun x hx => List.mem_flatMap.2 ⟨_, hm, hx⟩
  have hgn : g ∉ ts[k].2.2 := fun hx => hap g hgb (hsub g hx)
  have hoth : ∀ t ∈ ts, g ∉ t.2.2 := fun t ht hx => hap g hgb (List.mem_flatMap.2 ⟨t, ht, hx⟩)
  have hsp := flat_split (fun t : List Value × D × List Nat => t.1) ts k hk'
  have hA : ((ts.take k).flatMap (fun t : List Value × D × List Nat => t.1)).length = k * E.size := by
    rw [flat_len (fun t : List Value × D × List Nat => t.1) E.size (ts.take k) (fun t ht => hlen t (List.mem_of_mem_take ht)), List.length_take, Nat.min_eq_left (by omega)]
  have harr : arr.toList = (ts.take k).flatMap (fun t => t.1) ++ ts[k].1 ++ ((ts.drop (k + 1)).flatMap (fun t => t.1) ++ arr.toList.drop (ts.length * E.size)) := by
    rw [← List.append_assoc, ← hsp, ← h4, List.take_append_drop]
  refine ⟨g, cap, ts[k].1, ts[k].2.2, (ts.take k).flatMap (fun t => t.1), (ts.drop (k + 1)).flatMap (fun t => t.1) ++ arr.toList.drop (ts.length * E.size), by rw [hv]; simp, (Array.getElem?_eq_some_iff.1 hheap).1, List.mem_append_left _ hgb, hgn, fun x hx => List.mem_append_right _ (hsub x hx), by simpa using hE _ hm, ?_, hA, ?_⟩
  · show w.heap[g]? = some (.cells _ E.ty (0, 0))
    rw [hheap, ← harr]
  · intro w' cs' d' hrow hown hs hkeep
    have hcs' : cs'.length = E.size := E.rd_len (E.own_rd hown)
    have hset : (ts.set k (cs', d', ts[k].2.2)).flatMap (fun t => t.1) = (ts.take k).flatMap (fun t => t.1) ++ cs' ++ (ts.drop (k + 1)).flatMap (fun t => t.1) := by
      rw [flat_split (fun t : List Value × D × List Nat => t.1) (ts.set k (cs', d', ts[k].2.2)) k (by simpa using hk')]
      simp [List.take_set_of_le, List.drop_set_of_lt]
    have hflen : ((ts.set k (cs', d', ts[k].2.2)).flatMap (fun t => t.1)).length = ts.length * E.size := by
      rw [flat_len (fun t : List Value × D × List Nat => t.1) E.size (ts.set k (cs', d', ts[k].2.2)) (fun t ht => ?_), List.length_set]
      rcases List.mem_or_eq_of_mem_set ht with ht | rfl
      · exact hlen t ht
      · exact hcs'
    refine ⟨ts.set k (cs', d', ts[k].2.2), by rw [List.map_set], ⟨by rw [hflen, List.length_set], .inr ⟨g, cap, _, by rw [hv, List.length_set], hb0, hrow, by rw [List.length_set]; exact h1, h2, ?_, ?_⟩⟩, fun t ht => ?_, ?_⟩
    · have e := congrArg List.length harr
      have e1 : arr.toList.length = arr.size := by simp
      have e2 : ts[k].1.length = E.size := hlen _ hm
      rw [← h3]
      simp only [List.length_append] at e
      simp only [List.size_toArray, List.length_append]
      omega
    · have e : (ts.take k).flatMap (fun t => t.1) ++ cs' ++ ((ts.drop (k + 1)).flatMap (fun t => t.1) ++ arr.toList.drop (ts.length * E.size)) = (ts.set k (cs', d', ts[k].2.2)).flatMap (fun t => t.1) ++ arr.toList.drop (ts.length * E.size) := by rw [hset]; simp
      show List.take _ _ = _
      rw [List.length_set, e, List.take_append_of_le_length (Nat.le_of_eq hflen.symm), List.take_of_length_le (Nat.le_of_eq hflen)]
    · obtain ⟨i, hi, rfl⟩ := List.mem_iff_getElem.1 ht
      have hi' : i < ts.length := by simpa using hi
      by_cases e : i = k
      · subst e; simpa using hown
      · rw [List.getElem_set_ne (by omega)]
        refine E.own_keep (hE _ (List.getElem_mem hi')) hs fun x hx => hkeep x (List.mem_append_right _ (List.mem_flatMap.2 ⟨_, List.getElem_mem hi', hx⟩)) fun hxg => hoth _ (List.getElem_mem hi') (hxg ▸ hx)
    · rw [flat_same (fun t : List Value × D × List Nat => t.2.2) ts k hk' (cs', d', ts[k].2.2) rfl]
end
/-- A Conn in block g: its lists owned in the blocks bs. -/
structure CnM (w : World) (g : Nat) (d : CnD) (bs : List Nat) : Prop where
  ex : ∃ ve vi vo vf, RowIs w g 32 (cncs d ve vi vo vf) ∧ CnOw w bs d ve vi vo vf
  ng : g ∉ bs
/-- What a call may make of the blocks: the same ones, or new ones. -/
def NewB (w : World) (bs bs' : List Nat) : Prop := ∀ b ∈ bs', b ∈ bs ∨ w.heap.size ≤ b
theorem NewB.refl (w : World) (bs : List Nat) : NewB w bs bs := fun _ h => .inl h
theorem NewB.trans {w w' : World} {a b c : List Nat} (h : NewB w a b) (k : NewB w' b c) (hs : w.heap.size ≤ w'.heap.size) : NewB w a c := fun x hx => by
  rcases k x hx with e | e
  · exact h x e
  · exact .inr (Nat.le_trans hs e)
theorem CnM.new {w w' : World} {g : Nat} {d : CnD} {bs : List Nat} (h : CnM w g d bs) (hb : Below w.heap.size w w') : CnM w' g d bs := by
  obtain ⟨⟨ve, vi, vo, vf, h1, h2⟩, h3⟩ := h
  exact ⟨⟨ve, vi, vo, vf, h1.new hb, h2.new hb⟩, h3⟩
theorem CnM.lt {w : World} {g : Nat} {d : CnD} {bs : List Nat} (h : CnM w g d bs) : g < w.heap.size := by obtain ⟨⟨_, _, _, _, h1, _⟩, _⟩ := h; exact h1.lt
/-- A frame of rows elsewhere stays. -/
theorem TurnB.trans2 {bs bs' : List Nat} {a b c : World} (h : TurnB bs a b) (k : TurnB bs' b c) (hn : ∀ x ∈ bs', x ∈ bs ∨ a.heap.size ≤ x) : TurnB bs a c :=
  ⟨k.os.trans h.os, k.tape.trans h.tape, k.output.trans h.output, Nat.le_trans h.size k.size, fun i hi h' => (k.block i (Nat.lt_of_lt_of_le hi h.size) (fun hx => by rcases hn i hx with e | e; exact h' e; omega)).trans (h.block i hi h')⟩
end Go.Proofs.YtfmeinkhdgbgjaaGreat
/- What a right connection holds, in numbers. -/
namespace Go.Proofs.YtfmeinkhdgbgjaaGreat
open Go.RowKit
set_option maxRecDepth 100000
set_option linter.unusedSimpArgs false
set_option linter.unusedVariables false
theorem winB_nums {x : Int} (h : winB x = true) : -16777215 ≤ x ∧ x ≤ 16777215 := inB_true h
theorem reg_sixty {r : RegistryD} (h : okRg r = true) : r.es.length ≤ 60 := by
  unfold okRg at h
  simp only [Bool.and_eq_true, decide_eq_true_eq] at h
  omega
theorem cn_len {d : CnD} (h : okCn d = true) : d.flows.length = d.reg.es.length ∧ d.reg.es.length ≤ 60 := ⟨flows_len h, reg_sixty (okCn_iff.1 h).1⟩
theorem cn_wins {d : CnD} (h : okCn d = true) : (-16777215 ≤ d.get ∧ d.get ≤ 16777215) ∧ (-16777215 ≤ d.give ∧ d.give ≤ 16777215) ∧ (0 ≤ d.first ∧ d.first ≤ 16777215) := by
  have h' := okCn_iff.1 h
  exact ⟨winB_nums h'.2.2.2.1, winB_nums h'.2.2.2.2.1, inB_true h'.2.2.2.2.2.1⟩
theorem cn_flow {d : CnD} (h : okCn d = true) {f : FlD} (hf : f ∈ d.flows) : (-16777215 ≤ f.get ∧ f.get ≤ 16777215) ∧ (-16777215 ≤ f.give ∧ f.give ≤ 16777215) ∧ okTu f.tun = true ∧ okFs f.fds = true := by
  obtain ⟨i, hi, rfl⟩ := List.mem_iff_getElem.1 hf
  have hl := flows_len h
  have := okFl_iff.1 (okFls_get (okCn_iff.1 h).2.2.2.2.2.2 i hi (by omega))
  exact ⟨winB_nums this.2.1, winB_nums this.2.2.1, this.2.2.2.2, this.2.2.2.1⟩
end Go.Proofs.YtfmeinkhdgbgjaaGreat
/- Chapter 17's model: which Conn is right; a new one (by gen_connspec.py). -/
namespace Go.Proofs.YtfmeinkhdgbgjaaGreat
open Go.RowKit
set_option maxRecDepth 100000
set_option linter.unusedSimpArgs false
set_option linter.unusedVariables false
theorem okCn_no {c : CnD} (h : ¬ (okRg c.reg = true ∧ okT c.inr c.inT = true ∧ okT c.outr c.outT = true ∧ winB c.get = true ∧ winB c.give = true ∧ inB c.first 0 16777215 = true ∧ okFls c.flows c.reg.es = true)) : okCn c = false := by
  cases e : okCn c
  · rfl
  · unfold okCn at e
    simp only [Bool.and_eq_true] at e
    obtain ⟨⟨⟨⟨⟨⟨a, b⟩, c⟩, d⟩, e⟩, f⟩, g⟩ := e
    exact absurd ⟨a, b, c, d, e, f, g⟩ h
theorem okCn_yes {c : CnD} (h1 : okRg c.reg = true) (h2 : okT c.inr c.inT = true) (h3 : okT c.outr c.outT = true) (h4 : winB c.get = true) (h5 : winB c.give = true) (h6 : inB c.first 0 16777215 = true) (h7 : okFls c.flows c.reg.es = true) : okCn c = true := by
  unfold okCn; rw [h1, h2, h3, h4, h5, h6, h7]; rfl
theorem okFls_no {fs : List FlD} {es : List EntryD} {i : Nat} (h : i < fs.length) (h' : i < es.length) (hn : okFl fs[i] es[i] = false) : okFls fs es = false := by
  cases e : okFls fs es
  · rfl
  · rw [okFls_get e i h h'] at hn; cases hn
theorem okFl_no {f : FlD} {e : EntryD} (h : ¬ (f.id = e.id ∧ winB f.get = true ∧ winB f.give = true ∧ okFs f.fds = true ∧ okTu f.tun = true)) : okFl f e = false := by
  cases q : okFl f e
  · rfl
  · unfold okFl at q
    simp only [Bool.and_eq_true, decide_eq_true_eq] at q
    obtain ⟨⟨⟨⟨a, b⟩, c⟩, d⟩, e⟩ := q
    exact absurd ⟨a, b, c, d, e⟩ h
theorem okFl_yes {f : FlD} {e : EntryD} (h1 : f.id = e.id) (h2 : winB f.get = true) (h3 : winB f.give = true) (h4 : okFs f.fds = true) (h5 : okTu f.tun = true) : okFl f e = true := by
  unfold okFl; rw [decide_eq_true h1, h2, h3, h4, h5]; rfl
set_option maxHeartbeats 8000000 in
theorem specConnOk (d : CnD) (ve vi vo vf : Value) (w : World) (hv : CnRd w d ve vi vo vf) : Calls Tryz.prog 16 #[cnv d ve vi vo vf] w fun x w' => x = .returned (.bool (okCn d)) ∧ Below w.heap.size w w' := by
  dsimp only [cnv] at *
  have HV := hide hv
  clear hv
  obtain ⟨ae, pe, rfl, _⟩ := HV.out.e.form
  obtain ⟨ai, pi, rfl, _⟩ := HV.out.i.form
  obtain ⟨ao, po, rfl, _⟩ := HV.out.o.form
  obtain ⟨af, pf, rfl, _⟩ := HV.out.f.form
  have RX := rowIs_new w 32 [.int .i64 d.reg.lim, .int .i64 d.reg.top, .slice ae d.reg.es.length pe, .int .i64 d.inr, .slice ai d.inT.length pi, .int .i64 d.outr, .slice ao d.outT.length po, .int .i64 d.get, .int .i64 d.give, .int .i64 d.first, .slice af d.flows.length pf, .bool d.away, .bool d.dead]
  have HB : Below w.heap.size w (w.alloc (.cells #[.int .i64 d.reg.lim, .int .i64 d.reg.top, .slice ae d.reg.es.length pe, .int .i64 d.inr, .slice ai d.inT.length pi, .int .i64 d.outr, .slice ao d.outT.length po, .int .i64 d.get, .int .i64 d.give, .int .i64 d.first, .slice af d.flows.length pf, .bool d.away, .bool d.dead] 32)) := (Below.refl _ _).alloc (Nat.le_refl _) _
  obtain ⟨lf, hlf⟩ : ∃ n, n = d.flows.length := ⟨_, rfl⟩
  obtain ⟨le, hle⟩ : ∃ n, n = d.reg.es.length := ⟨_, rfl⟩
  have HLF := hide hlf; have HLE := hide hle
  cases k1 : okRg d.reg
  · go_enter Tryz.func16, Tryz.ntmps16
    go_wp2_with fail
    refine (specRegistryOk d.reg _ _ (HV.out.e.new HB)).mono ?_; rw [k1]; rintro x u0 ⟨rfl, hb⟩
    replace RX := RX.new hb
    replace HB := bchain HB hb
    clear hb
    have x0 := RowIs.cell (j := 0) RX rfl
    have x1 := RowIs.cell (j := 1) RX rfl
    have x2 := RowIs.cell (j := 2) RX rfl
    have x3 := RowIs.cell (j := 3) RX rfl
    have x4 := RowIs.cell (j := 4) RX rfl
    have x5 := RowIs.cell (j := 5) RX rfl
    have x6 := RowIs.cell (j := 6) RX rfl
    have x7 := RowIs.cell (j := 7) RX rfl
    have x8 := RowIs.cell (j := 8) RX rfl
    have x9 := RowIs.cell (j := 9) RX rfl
    have x10 := RowIs.cell (j := 10) RX rfl
    have x11 := RowIs.cell (j := 11) RX rfl
    have x12 := RowIs.cell (j := 12) RX rfl
    go_wp2_with fail
    go_ret
    exact ⟨by rw [okCn_no (fun h => by rw [k1] at h; simp at h)]; rfl, HB⟩
  cases k2 : okT d.inr d.inT
  · go_enter Tryz.func16, Tryz.ntmps16
    go_wp2_with fail
    refine (specRegistryOk d.reg _ _ (HV.out.e.new HB)).mono ?_; rw [k1]; rintro x u0 ⟨rfl, hb⟩
    replace RX := RX.new hb
    replace HB := bchain HB hb
    clear hb
    have x0 := RowIs.cell (j := 0) RX rfl
    have x1 := RowIs.cell (j := 1) RX rfl
    have x2 := RowIs.cell (j := 2) RX rfl
    have x3 := RowIs.cell (j := 3) RX rfl
    have x4 := RowIs.cell (j := 4) RX rfl
    have x5 := RowIs.cell (j := 5) RX rfl
    have x6 := RowIs.cell (j := 6) RX rfl
    have x7 := RowIs.cell (j := 7) RX rfl
    have x8 := RowIs.cell (j := 8) RX rfl
    have x9 := RowIs.cell (j := 9) RX rfl
    have x10 := RowIs.cell (j := 10) RX rfl
    have x11 := RowIs.cell (j := 11) RX rfl
    have x12 := RowIs.cell (j := 12) RX rfl
    go_wp2_with fail
    refine (specTOk d.inT d.inr _ _ (rd_fv (HV.out.i.new HB)) (rd_fine (HV.out.i.new HB))).mono ?_; rw [k2]; rintro x u1 ⟨rfl, hb⟩
    replace RX := RX.new hb
    replace HB := bchain HB hb
    clear hb
    clear x0 x1 x2 x3 x4 x5 x6 x7 x8 x9 x10 x11 x12
    have x0 := RowIs.cell (j := 0) RX rfl
    have x1 := RowIs.cell (j := 1) RX rfl
    have x2 := RowIs.cell (j := 2) RX rfl
    have x3 := RowIs.cell (j := 3) RX rfl
    have x4 := RowIs.cell (j := 4) RX rfl
    have x5 := RowIs.cell (j := 5) RX rfl
    have x6 := RowIs.cell (j := 6) RX rfl
    have x7 := RowIs.cell (j := 7) RX rfl
    have x8 := RowIs.cell (j := 8) RX rfl
    have x9 := RowIs.cell (j := 9) RX rfl
    have x10 := RowIs.cell (j := 10) RX rfl
    have x11 := RowIs.cell (j := 11) RX rfl
    have x12 := RowIs.cell (j := 12) RX rfl
    go_wp2_with fail
    go_ret
    exact ⟨by rw [okCn_no (fun h => by rw [k2] at h; simp at h)]; rfl, HB⟩
  cases k3 : okT d.outr d.outT
  · go_enter Tryz.func16, Tryz.ntmps16
    go_wp2_with fail
    refine (specRegistryOk d.reg _ _ (HV.out.e.new HB)).mono ?_; rw [k1]; rintro x u0 ⟨rfl, hb⟩
    replace RX := RX.new hb
    replace HB := bchain HB hb
    clear hb
    have x0 := RowIs.cell (j := 0) RX rfl
    have x1 := RowIs.cell (j := 1) RX rfl
    have x2 := RowIs.cell (j := 2) RX rfl
    have x3 := RowIs.cell (j := 3) RX rfl
    have x4 := RowIs.cell (j := 4) RX rfl
    have x5 := RowIs.cell (j := 5) RX rfl
    have x6 := RowIs.cell (j := 6) RX rfl
    have x7 := RowIs.cell (j := 7) RX rfl
    have x8 := RowIs.cell (j := 8) RX rfl
    have x9 := RowIs.cell (j := 9) RX rfl
    have x10 := RowIs.cell (j := 10) RX rfl
    have x11 := RowIs.cell (j := 11) RX rfl
    have x12 := RowIs.cell (j := 12) RX rfl
    go_wp2_with fail
    refine (specTOk d.inT d.inr _ _ (rd_fv (HV.out.i.new HB)) (rd_fine (HV.out.i.new HB))).mono ?_; rw [k2]; rintro x u1 ⟨rfl, hb⟩
    replace RX := RX.new hb
    replace HB := bchain HB hb
    clear hb
    clear x0 x1 x2 x3 x4 x5 x6 x7 x8 x9 x10 x11 x12
    have x0 := RowIs.cell (j := 0) RX rfl
    have x1 := RowIs.cell (j := 1) RX rfl
    have x2 := RowIs.cell (j := 2) RX rfl
    have x3 := RowIs.cell (j := 3) RX rfl
    have x4 := RowIs.cell (j := 4) RX rfl
    have x5 := RowIs.cell (j := 5) RX rfl
    have x6 := RowIs.cell (j := 6) RX rfl
    have x7 := RowIs.cell (j := 7) RX rfl
    have x8 := RowIs.cell (j := 8) RX rfl
    have x9 := RowIs.cell (j := 9) RX rfl
    have x10 := RowIs.cell (j := 10) RX rfl
    have x11 := RowIs.cell (j := 11) RX rfl
    have x12 := RowIs.cell (j := 12) RX rfl
    go_wp2_with fail
    refine (specTOk d.outT d.outr _ _ (rd_fv (HV.out.o.new HB)) (rd_fine (HV.out.o.new HB))).mono ?_; rw [k3]; rintro x u2 ⟨rfl, hb⟩
    replace RX := RX.new hb
    replace HB := bchain HB hb
    clear hb
    clear x0 x1 x2 x3 x4 x5 x6 x7 x8 x9 x10 x11 x12
    have x0 := RowIs.cell (j := 0) RX rfl
    have x1 := RowIs.cell (j := 1) RX rfl
    have x2 := RowIs.cell (j := 2) RX rfl
    have x3 := RowIs.cell (j := 3) RX rfl
    have x4 := RowIs.cell (j := 4) RX rfl
    have x5 := RowIs.cell (j := 5) RX rfl
    have x6 := RowIs.cell (j := 6) RX rfl
    have x7 := RowIs.cell (j := 7) RX rfl
    have x8 := RowIs.cell (j := 8) RX rfl
    have x9 := RowIs.cell (j := 9) RX rfl
    have x10 := RowIs.cell (j := 10) RX rfl
    have x11 := RowIs.cell (j := 11) RX rfl
    have x12 := RowIs.cell (j := 12) RX rfl
    go_wp2_with fail
    go_ret
    exact ⟨by rw [okCn_no (fun h => by rw [k3] at h; simp at h)]; rfl, HB⟩
  cases k4 : winB d.get
  · go_enter Tryz.func16, Tryz.ntmps16
    go_wp2_with fail
    refine (specRegistryOk d.reg _ _ (HV.out.e.new HB)).mono ?_; rw [k1]; rintro x u0 ⟨rfl, hb⟩
    replace RX := RX.new hb
    replace HB := bchain HB hb
    clear hb
    have x0 := RowIs.cell (j := 0) RX rfl
    have x1 := RowIs.cell (j := 1) RX rfl
    have x2 := RowIs.cell (j := 2) RX rfl
    have x3 := RowIs.cell (j := 3) RX rfl
    have x4 := RowIs.cell (j := 4) RX rfl
    have x5 := RowIs.cell (j := 5) RX rfl
    have x6 := RowIs.cell (j := 6) RX rfl
    have x7 := RowIs.cell (j := 7) RX rfl
    have x8 := RowIs.cell (j := 8) RX rfl
    have x9 := RowIs.cell (j := 9) RX rfl
    have x10 := RowIs.cell (j := 10) RX rfl
    have x11 := RowIs.cell (j := 11) RX rfl
    have x12 := RowIs.cell (j := 12) RX rfl
    go_wp2_with fail
    refine (specTOk d.inT d.inr _ _ (rd_fv (HV.out.i.new HB)) (rd_fine (HV.out.i.new HB))).mono ?_; rw [k2]; rintro x u1 ⟨rfl, hb⟩
    replace RX := RX.new hb
    replace HB := bchain HB hb
    clear hb
    clear x0 x1 x2 x3 x4 x5 x6 x7 x8 x9 x10 x11 x12
    have x0 := RowIs.cell (j := 0) RX rfl
    have x1 := RowIs.cell (j := 1) RX rfl
    have x2 := RowIs.cell (j := 2) RX rfl
    have x3 := RowIs.cell (j := 3) RX rfl
    have x4 := RowIs.cell (j := 4) RX rfl
    have x5 := RowIs.cell (j := 5) RX rfl
    have x6 := RowIs.cell (j := 6) RX rfl
    have x7 := RowIs.cell (j := 7) RX rfl
    have x8 := RowIs.cell (j := 8) RX rfl
    have x9 := RowIs.cell (j := 9) RX rfl
    have x10 := RowIs.cell (j := 10) RX rfl
    have x11 := RowIs.cell (j := 11) RX rfl
    have x12 := RowIs.cell (j := 12) RX rfl
    go_wp2_with fail
    refine (specTOk d.outT d.outr _ _ (rd_fv (HV.out.o.new HB)) (rd_fine (HV.out.o.new HB))).mono ?_; rw [k3]; rintro x u2 ⟨rfl, hb⟩
    replace RX := RX.new hb
    replace HB := bchain HB hb
    clear hb
    clear x0 x1 x2 x3 x4 x5 x6 x7 x8 x9 x10 x11 x12
    have x0 := RowIs.cell (j := 0) RX rfl
    have x1 := RowIs.cell (j := 1) RX rfl
    have x2 := RowIs.cell (j := 2) RX rfl
    have x3 := RowIs.cell (j := 3) RX rfl
    have x4 := RowIs.cell (j := 4) RX rfl
    have x5 := RowIs.cell (j := 5) RX rfl
    have x6 := RowIs.cell (j := 6) RX rfl
    have x7 := RowIs.cell (j := 7) RX rfl
    have x8 := RowIs.cell (j := 8) RX rfl
    have x9 := RowIs.cell (j := 9) RX rfl
    have x10 := RowIs.cell (j := 10) RX rfl
    have x11 := RowIs.cell (j := 11) RX rfl
    have x12 := RowIs.cell (j := 12) RX rfl
    go_wp2_with fail
    refine (specWin d.get _).mono ?_; rw [k4]; rintro e v3 ⟨rfl, hsame⟩; obtain rfl := hsame.symm; clear hsame
    go_wp2_with fail
    go_ret
    exact ⟨by rw [okCn_no (fun h => by rw [k4] at h; simp at h)]; rfl, HB⟩
  cases k5 : winB d.give
  · go_enter Tryz.func16, Tryz.ntmps16
    go_wp2_with fail
    refine (specRegistryOk d.reg _ _ (HV.out.e.new HB)).mono ?_; rw [k1]; rintro x u0 ⟨rfl, hb⟩
    replace RX := RX.new hb
    replace HB := bchain HB hb
    clear hb
    have x0 := RowIs.cell (j := 0) RX rfl
    have x1 := RowIs.cell (j := 1) RX rfl
    have x2 := RowIs.cell (j := 2) RX rfl
    have x3 := RowIs.cell (j := 3) RX rfl
    have x4 := RowIs.cell (j := 4) RX rfl
    have x5 := RowIs.cell (j := 5) RX rfl
    have x6 := RowIs.cell (j := 6) RX rfl
    have x7 := RowIs.cell (j := 7) RX rfl
    have x8 := RowIs.cell (j := 8) RX rfl
    have x9 := RowIs.cell (j := 9) RX rfl
    have x10 := RowIs.cell (j := 10) RX rfl
    have x11 := RowIs.cell (j := 11) RX rfl
    have x12 := RowIs.cell (j := 12) RX rfl
    go_wp2_with fail
    refine (specTOk d.inT d.inr _ _ (rd_fv (HV.out.i.new HB)) (rd_fine (HV.out.i.new HB))).mono ?_; rw [k2]; rintro x u1 ⟨rfl, hb⟩
    replace RX := RX.new hb
    replace HB := bchain HB hb
    clear hb
    clear x0 x1 x2 x3 x4 x5 x6 x7 x8 x9 x10 x11 x12
    have x0 := RowIs.cell (j := 0) RX rfl
    have x1 := RowIs.cell (j := 1) RX rfl
    have x2 := RowIs.cell (j := 2) RX rfl
    have x3 := RowIs.cell (j := 3) RX rfl
    have x4 := RowIs.cell (j := 4) RX rfl
    have x5 := RowIs.cell (j := 5) RX rfl
    have x6 := RowIs.cell (j := 6) RX rfl
    have x7 := RowIs.cell (j := 7) RX rfl
    have x8 := RowIs.cell (j := 8) RX rfl
    have x9 := RowIs.cell (j := 9) RX rfl
    have x10 := RowIs.cell (j := 10) RX rfl
    have x11 := RowIs.cell (j := 11) RX rfl
    have x12 := RowIs.cell (j := 12) RX rfl
    go_wp2_with fail
    refine (specTOk d.outT d.outr _ _ (rd_fv (HV.out.o.new HB)) (rd_fine (HV.out.o.new HB))).mono ?_; rw [k3]; rintro x u2 ⟨rfl, hb⟩
    replace RX := RX.new hb
    replace HB := bchain HB hb
    clear hb
    clear x0 x1 x2 x3 x4 x5 x6 x7 x8 x9 x10 x11 x12
    have x0 := RowIs.cell (j := 0) RX rfl
    have x1 := RowIs.cell (j := 1) RX rfl
    have x2 := RowIs.cell (j := 2) RX rfl
    have x3 := RowIs.cell (j := 3) RX rfl
    have x4 := RowIs.cell (j := 4) RX rfl
    have x5 := RowIs.cell (j := 5) RX rfl
    have x6 := RowIs.cell (j := 6) RX rfl
    have x7 := RowIs.cell (j := 7) RX rfl
    have x8 := RowIs.cell (j := 8) RX rfl
    have x9 := RowIs.cell (j := 9) RX rfl
    have x10 := RowIs.cell (j := 10) RX rfl
    have x11 := RowIs.cell (j := 11) RX rfl
    have x12 := RowIs.cell (j := 12) RX rfl
    go_wp2_with fail
    refine (specWin d.get _).mono ?_; rw [k4]; rintro e v3 ⟨rfl, hsame⟩; obtain rfl := hsame.symm; clear hsame
    go_wp2_with fail
    refine (specWin d.give _).mono ?_; rw [k5]; rintro e v4 ⟨rfl, hsame⟩; obtain rfl := hsame.symm; clear hsame
    go_wp2_with fail
    go_ret
    exact ⟨by rw [okCn_no (fun h => by rw [k5] at h; simp at h)]; rfl, HB⟩
  cases k6 : inB d.first 0 16777215
  · go_enter Tryz.func16, Tryz.ntmps16
    go_wp2_with fail
    refine (specRegistryOk d.reg _ _ (HV.out.e.new HB)).mono ?_; rw [k1]; rintro x u0 ⟨rfl, hb⟩
    replace RX := RX.new hb
    replace HB := bchain HB hb
    clear hb
    have x0 := RowIs.cell (j := 0) RX rfl
    have x1 := RowIs.cell (j := 1) RX rfl
    have x2 := RowIs.cell (j := 2) RX rfl
    have x3 := RowIs.cell (j := 3) RX rfl
    have x4 := RowIs.cell (j := 4) RX rfl
    have x5 := RowIs.cell (j := 5) RX rfl
    have x6 := RowIs.cell (j := 6) RX rfl
    have x7 := RowIs.cell (j := 7) RX rfl
    have x8 := RowIs.cell (j := 8) RX rfl
    have x9 := RowIs.cell (j := 9) RX rfl
    have x10 := RowIs.cell (j := 10) RX rfl
    have x11 := RowIs.cell (j := 11) RX rfl
    have x12 := RowIs.cell (j := 12) RX rfl
    go_wp2_with fail
    refine (specTOk d.inT d.inr _ _ (rd_fv (HV.out.i.new HB)) (rd_fine (HV.out.i.new HB))).mono ?_; rw [k2]; rintro x u1 ⟨rfl, hb⟩
    replace RX := RX.new hb
    replace HB := bchain HB hb
    clear hb
    clear x0 x1 x2 x3 x4 x5 x6 x7 x8 x9 x10 x11 x12
    have x0 := RowIs.cell (j := 0) RX rfl
    have x1 := RowIs.cell (j := 1) RX rfl
    have x2 := RowIs.cell (j := 2) RX rfl
    have x3 := RowIs.cell (j := 3) RX rfl
    have x4 := RowIs.cell (j := 4) RX rfl
    have x5 := RowIs.cell (j := 5) RX rfl
    have x6 := RowIs.cell (j := 6) RX rfl
    have x7 := RowIs.cell (j := 7) RX rfl
    have x8 := RowIs.cell (j := 8) RX rfl
    have x9 := RowIs.cell (j := 9) RX rfl
    have x10 := RowIs.cell (j := 10) RX rfl
    have x11 := RowIs.cell (j := 11) RX rfl
    have x12 := RowIs.cell (j := 12) RX rfl
    go_wp2_with fail
    refine (specTOk d.outT d.outr _ _ (rd_fv (HV.out.o.new HB)) (rd_fine (HV.out.o.new HB))).mono ?_; rw [k3]; rintro x u2 ⟨rfl, hb⟩
    replace RX := RX.new hb
    replace HB := bchain HB hb
    clear hb
    clear x0 x1 x2 x3 x4 x5 x6 x7 x8 x9 x10 x11 x12
    have x0 := RowIs.cell (j := 0) RX rfl
    have x1 := RowIs.cell (j := 1) RX rfl
    have x2 := RowIs.cell (j := 2) RX rfl
    have x3 := RowIs.cell (j := 3) RX rfl
    have x4 := RowIs.cell (j := 4) RX rfl
    have x5 := RowIs.cell (j := 5) RX rfl
    have x6 := RowIs.cell (j := 6) RX rfl
    have x7 := RowIs.cell (j := 7) RX rfl
    have x8 := RowIs.cell (j := 8) RX rfl
    have x9 := RowIs.cell (j := 9) RX rfl
    have x10 := RowIs.cell (j := 10) RX rfl
    have x11 := RowIs.cell (j := 11) RX rfl
    have x12 := RowIs.cell (j := 12) RX rfl
    go_wp2_with fail
    refine (specWin d.get _).mono ?_; rw [k4]; rintro e v3 ⟨rfl, hsame⟩; obtain rfl := hsame.symm; clear hsame
    go_wp2_with fail
    refine (specWin d.give _).mono ?_; rw [k5]; rintro e v4 ⟨rfl, hsame⟩; obtain rfl := hsame.symm; clear hsame
    go_wp2_with fail
    refine (specIn d.first 0 16777215 _).mono ?_; rw [k6]; rintro e v5 ⟨rfl, hsame⟩; obtain rfl := hsame.symm; clear hsame
    go_wp2_with fail
    go_ret
    exact ⟨by rw [okCn_no (fun h => by rw [k6] at h; simp at h)]; rfl, HB⟩
  by_cases k7 : d.flows.length = d.reg.es.length
  rotate_left
  · have k7' : ((d.flows.length : Int) != d.reg.es.length) = true := by simpa using fun c : (d.flows.length : Int) = d.reg.es.length => k7 (by omega)
    have HK7 := hide k7
    clear k7
    go_enter Tryz.func16, Tryz.ntmps16
    go_wp2_with fail
    refine (specRegistryOk d.reg _ _ (HV.out.e.new HB)).mono ?_; rw [k1]; rintro x u0 ⟨rfl, hb⟩
    replace RX := RX.new hb
    replace HB := bchain HB hb
    clear hb
    have x0 := RowIs.cell (j := 0) RX rfl
    have x1 := RowIs.cell (j := 1) RX rfl
    have x2 := RowIs.cell (j := 2) RX rfl
    have x3 := RowIs.cell (j := 3) RX rfl
    have x4 := RowIs.cell (j := 4) RX rfl
    have x5 := RowIs.cell (j := 5) RX rfl
    have x6 := RowIs.cell (j := 6) RX rfl
    have x7 := RowIs.cell (j := 7) RX rfl
    have x8 := RowIs.cell (j := 8) RX rfl
    have x9 := RowIs.cell (j := 9) RX rfl
    have x10 := RowIs.cell (j := 10) RX rfl
    have x11 := RowIs.cell (j := 11) RX rfl
    have x12 := RowIs.cell (j := 12) RX rfl
    go_wp2_with fail
    refine (specTOk d.inT d.inr _ _ (rd_fv (HV.out.i.new HB)) (rd_fine (HV.out.i.new HB))).mono ?_; rw [k2]; rintro x u1 ⟨rfl, hb⟩
    replace RX := RX.new hb
    replace HB := bchain HB hb
    clear hb
    clear x0 x1 x2 x3 x4 x5 x6 x7 x8 x9 x10 x11 x12
    have x0 := RowIs.cell (j := 0) RX rfl
    have x1 := RowIs.cell (j := 1) RX rfl
    have x2 := RowIs.cell (j := 2) RX rfl
    have x3 := RowIs.cell (j := 3) RX rfl
    have x4 := RowIs.cell (j := 4) RX rfl
    have x5 := RowIs.cell (j := 5) RX rfl
    have x6 := RowIs.cell (j := 6) RX rfl
    have x7 := RowIs.cell (j := 7) RX rfl
    have x8 := RowIs.cell (j := 8) RX rfl
    have x9 := RowIs.cell (j := 9) RX rfl
    have x10 := RowIs.cell (j := 10) RX rfl
    have x11 := RowIs.cell (j := 11) RX rfl
    have x12 := RowIs.cell (j := 12) RX rfl
    go_wp2_with fail
    refine (specTOk d.outT d.outr _ _ (rd_fv (HV.out.o.new HB)) (rd_fine (HV.out.o.new HB))).mono ?_; rw [k3]; rintro x u2 ⟨rfl, hb⟩
    replace RX := RX.new hb
    replace HB := bchain HB hb
    clear hb
    clear x0 x1 x2 x3 x4 x5 x6 x7 x8 x9 x10 x11 x12
    have x0 := RowIs.cell (j := 0) RX rfl
    have x1 := RowIs.cell (j := 1) RX rfl
    have x2 := RowIs.cell (j := 2) RX rfl
    have x3 := RowIs.cell (j := 3) RX rfl
    have x4 := RowIs.cell (j := 4) RX rfl
    have x5 := RowIs.cell (j := 5) RX rfl
    have x6 := RowIs.cell (j := 6) RX rfl
    have x7 := RowIs.cell (j := 7) RX rfl
    have x8 := RowIs.cell (j := 8) RX rfl
    have x9 := RowIs.cell (j := 9) RX rfl
    have x10 := RowIs.cell (j := 10) RX rfl
    have x11 := RowIs.cell (j := 11) RX rfl
    have x12 := RowIs.cell (j := 12) RX rfl
    go_wp2_with fail
    refine (specWin d.get _).mono ?_; rw [k4]; rintro e v3 ⟨rfl, hsame⟩; obtain rfl := hsame.symm; clear hsame
    go_wp2_with fail
    refine (specWin d.give _).mono ?_; rw [k5]; rintro e v4 ⟨rfl, hsame⟩; obtain rfl := hsame.symm; clear hsame
    go_wp2_with fail
    refine (specIn d.first 0 16777215 _).mono ?_; rw [k6]; rintro e v5 ⟨rfl, hsame⟩; obtain rfl := hsame.symm; clear hsame
    go_wp2_with fail
    go_ret
    exact ⟨by rw [okCn_no (fun h => HK7.out (okFls_len h.2.2.2.2.2.2))]; rfl, HB⟩
  have k7' : ((d.flows.length : Int) != d.reg.es.length) = false := by simpa using (show (d.flows.length : Int) = d.reg.es.length by omega)
  have HK7 := hide k7
  have hle1 : d.flows.length ≤ d.reg.es.length := by omega
  clear k7
  have HYES : Hid (okFls d.flows d.reg.es = true → okCn d = true) := fun h => okCn_yes k1 k2 k3 k4 k5 k6 h
  have HNO : Hid (okFls d.flows d.reg.es = false → okCn d = false) := fun h => okCn_no (fun c => by rw [h] at c; simp at c)
  go_enter Tryz.func16, Tryz.ntmps16
  go_wp2_with fail
  refine (specRegistryOk d.reg _ _ (HV.out.e.new HB)).mono ?_; rw [k1]; rintro x u0 ⟨rfl, hb⟩
  replace RX := RX.new hb
  replace HB := bchain HB hb
  clear hb
  have x0 := RowIs.cell (j := 0) RX rfl
  have x1 := RowIs.cell (j := 1) RX rfl
  have x2 := RowIs.cell (j := 2) RX rfl
  have x3 := RowIs.cell (j := 3) RX rfl
  have x4 := RowIs.cell (j := 4) RX rfl
  have x5 := RowIs.cell (j := 5) RX rfl
  have x6 := RowIs.cell (j := 6) RX rfl
  have x7 := RowIs.cell (j := 7) RX rfl
  have x8 := RowIs.cell (j := 8) RX rfl
  have x9 := RowIs.cell (j := 9) RX rfl
  have x10 := RowIs.cell (j := 10) RX rfl
  have x11 := RowIs.cell (j := 11) RX rfl
  have x12 := RowIs.cell (j := 12) RX rfl
  go_wp2_with fail
  refine (specTOk d.inT d.inr _ _ (rd_fv (HV.out.i.new HB)) (rd_fine (HV.out.i.new HB))).mono ?_; rw [k2]; rintro x u1 ⟨rfl, hb⟩
  replace RX := RX.new hb
  replace HB := bchain HB hb
  clear hb
  clear x0 x1 x2 x3 x4 x5 x6 x7 x8 x9 x10 x11 x12
  have x0 := RowIs.cell (j := 0) RX rfl
  have x1 := RowIs.cell (j := 1) RX rfl
  have x2 := RowIs.cell (j := 2) RX rfl
  have x3 := RowIs.cell (j := 3) RX rfl
  have x4 := RowIs.cell (j := 4) RX rfl
  have x5 := RowIs.cell (j := 5) RX rfl
  have x6 := RowIs.cell (j := 6) RX rfl
  have x7 := RowIs.cell (j := 7) RX rfl
  have x8 := RowIs.cell (j := 8) RX rfl
  have x9 := RowIs.cell (j := 9) RX rfl
  have x10 := RowIs.cell (j := 10) RX rfl
  have x11 := RowIs.cell (j := 11) RX rfl
  have x12 := RowIs.cell (j := 12) RX rfl
  go_wp2_with fail
  refine (specTOk d.outT d.outr _ _ (rd_fv (HV.out.o.new HB)) (rd_fine (HV.out.o.new HB))).mono ?_; rw [k3]; rintro x u2 ⟨rfl, hb⟩
  replace RX := RX.new hb
  replace HB := bchain HB hb
  clear hb
  clear x0 x1 x2 x3 x4 x5 x6 x7 x8 x9 x10 x11 x12
  have x0 := RowIs.cell (j := 0) RX rfl
  have x1 := RowIs.cell (j := 1) RX rfl
  have x2 := RowIs.cell (j := 2) RX rfl
  have x3 := RowIs.cell (j := 3) RX rfl
  have x4 := RowIs.cell (j := 4) RX rfl
  have x5 := RowIs.cell (j := 5) RX rfl
  have x6 := RowIs.cell (j := 6) RX rfl
  have x7 := RowIs.cell (j := 7) RX rfl
  have x8 := RowIs.cell (j := 8) RX rfl
  have x9 := RowIs.cell (j := 9) RX rfl
  have x10 := RowIs.cell (j := 10) RX rfl
  have x11 := RowIs.cell (j := 11) RX rfl
  have x12 := RowIs.cell (j := 12) RX rfl
  go_wp2_with fail
  refine (specWin d.get _).mono ?_; rw [k4]; rintro e v3 ⟨rfl, hsame⟩; obtain rfl := hsame.symm; clear hsame
  go_wp2_with fail
  refine (specWin d.give _).mono ?_; rw [k5]; rintro e v4 ⟨rfl, hsame⟩; obtain rfl := hsame.symm; clear hsame
  go_wp2_with fail
  refine (specIn d.first 0 16777215 _).mono ?_; rw [k6]; rintro e v5 ⟨rfl, hsame⟩; obtain rfl := hsame.symm; clear hsame
  go_wp2_with fail
  have HRX := hide RX; have HBW := hide HB
  clear x0 x1 x2 x3 x4 x5 x6 x7 x8 x9 x10 x11 x12 RX HB k1 k2 k3 k4 k5 k6
  go_loopw [3] (fun i wr => ∃ k : Nat, i = .int .i64 k ∧ k ≤ d.flows.length ∧ Hid (∀ j (h : j < d.flows.length) (h' : j < d.reg.es.length), j < k → okFl d.flows[j] d.reg.es[j] = true) ∧ Hid (RowIs wr w.heap.size 32 [.int .i64 d.reg.lim, .int .i64 d.reg.top, .slice ae d.reg.es.length pe, .int .i64 d.inr, .slice ai d.inT.length pi, .int .i64 d.outr, .slice ao d.outT.length po, .int .i64 d.get, .int .i64 d.give, .int .i64 d.first, .slice af d.flows.length pf, .bool d.away, .bool d.dead]) ∧ Hid (Below w.heap.size w wr)) (fun i _ => d.flows.length - (intOf i).toNat)
  case atStart => exact ⟨0, rfl, Nat.zero_le _, fun j _ _ h => absurd h (Nat.not_lt_zero _), HRX, HBW⟩
  case round =>
    clear HRX HBW
    obtain ⟨i, rfl, hi, HI, HRX, HBW⟩ := hrel
    have RX := HRX.out
    have x10 := RowIs.cell (j := 10) RX rfl
    by_cases hlt : i < d.flows.length
    rotate_left
    · have HT : Hid (okCn d = true) := HYES.out (okFls_of HK7.out (fun j h h' => HI.out j h h' (by omega)))
      clear RX
      go_wp2_with fail
      go_ret
      exact ⟨by rw [HT.out]; rfl, HBW.out⟩
    have hlte : i < d.reg.es.length := by omega
    obtain ⟨b, o, cs, rfl, hbw, hrd, hc⟩ := (HV.out.f.new HBW.out).at i hlt
    obtain ⟨be, oe, ce, rfl, hbe, hre, hce⟩ := (HV.out.e.new HBW.out).at i hlte
    have HF := hide (rfl : d.flows[i] = d.flows[i])
    obtain ⟨f, hf⟩ : ∃ f, d.flows[i] = f := ⟨_, rfl⟩
    obtain ⟨e, he⟩ : ∃ e, d.reg.es[i] = e := ⟨_, rfl⟩
    have HNOi : Hid (okFl f e = false → okCn d = false) := fun h => HNO.out (okFls_no hlt hlte (by rw [hf, he]; exact h))
    have HYi : Hid (okFl f e = true → ∀ j (h : j < d.flows.length) (h' : j < d.reg.es.length), j < i + 1 → okFl d.flows[j] d.reg.es[j] = true) := fun hq j h h' hj => by
      by_cases hji : j = i
      · subst hji; rw [hf, he]; exact hq
      · exact HI.out j h h' (by omega)
    rw [hf] at hrd
    rw [he] at hre
    clear hf he HF
    obtain ⟨vf, rfl, hf0, hf1, hfd⟩ := hrd
    obtain ⟨aff, pff, rfl, _⟩ := hfd.form
    have HFD := hide hfd
    clear hfd
    obtain rfl := hre
    have ce0 : wr.cell? ⟨be, oe + i * 2, none⟩ = some (.int .i64 e.id) := hce 0 _ rfl
    have c0 : wr.cell? ⟨b, o + i * 15, none⟩ = some (.int .i64 f.id) := hc 0 _ rfl
    have c1 : wr.cell? ⟨b, o + i * 15 + 1, none⟩ = some (.int .i64 f.get) := hc 1 _ rfl
    have c2 : wr.cell? ⟨b, o + i * 15 + 2, none⟩ = some (.int .i64 f.give) := hc 2 _ rfl
    have c3 : wr.cell? ⟨b, o + i * 15 + 3, none⟩ = some (.slice aff f.fds.length pff) := hc 3 _ rfl
    have c4 : wr.cell? ⟨b, o + i * 15 + 4, none⟩ = some (.int .i64 f.tun.up.r) := hc 4 _ rfl
    have c5 : wr.cell? ⟨b, o + i * 15 + 5, none⟩ = some (.string f.tun.up.b) := hc 5 _ rfl
    have c6 : wr.cell? ⟨b, o + i * 15 + 6, none⟩ = some (.bool f.tun.up.e) := hc 6 _ rfl
    have c7 : wr.cell? ⟨b, o + i * 15 + 7, none⟩ = some (.bool f.tun.up.k) := hc 7 _ rfl
    have c8 : wr.cell? ⟨b, o + i * 15 + 8, none⟩ = some (.int .i64 f.tun.dn.r) := hc 8 _ rfl
    have c9 : wr.cell? ⟨b, o + i * 15 + 9, none⟩ = some (.string f.tun.dn.b) := hc 9 _ rfl
    have c10 : wr.cell? ⟨b, o + i * 15 + 10, none⟩ = some (.bool f.tun.dn.e) := hc 10 _ rfl
    have c11 : wr.cell? ⟨b, o + i * 15 + 11, none⟩ = some (.bool f.tun.dn.k) := hc 11 _ rfl
    have c12 : wr.cell? ⟨b, o + i * 15 + 12, none⟩ = some (.int .i64 f.tun.went) := hc 12 _ rfl
    have c13 : wr.cell? ⟨b, o + i * 15 + 13, none⟩ = some (.int .i64 f.tun.came) := hc 13 _ rfl
    have c14 : wr.cell? ⟨b, o + i * 15 + 14, none⟩ = some (.bool f.ended) := hc 14 _ rfl
    clear hc hce
    go_upto_region 7 with (refine wpList_store_row (by rfl) 57 _ _ (by rfl) wr.heap.size [.int .i64 f.id, .int .i64 f.get, .int .i64 f.give, .slice aff f.fds.length pff, .int .i64 f.tun.up.r, .string f.tun.up.b, .bool f.tun.up.e, .bool f.tun.up.k, .int .i64 f.tun.dn.r, .string f.tun.dn.b, .bool f.tun.dn.e, .bool f.tun.dn.k, .int .i64 f.tun.went, .int .i64 f.tun.came, .bool f.ended] (by rfl) (by rfl) 57 [.int .i64 0, .int .i64 0, .int .i64 0, .slice none 0 0, .int .i64 0, .string ⟨#[]⟩, .bool false, .bool false, .int .i64 0, .string ⟨#[]⟩, .bool false, .bool false, .int .i64 0, .int .i64 0, .bool false] (rowIs_new wr 57 [.int .i64 0, .int .i64 0, .int .i64 0, .slice none 0 0, .int .i64 0, .string ⟨#[]⟩, .bool false, .bool false, .int .i64 0, .string ⟨#[]⟩, .bool false, .bool false, .int .i64 0, .int .i64 0, .bool false]) (by kernel_rfl) rfl (by intro u hu; simp at hu; rcases hu with rfl | rfl | rfl | rfl | rfl | rfl | rfl | rfl | rfl | rfl | rfl | rfl | rfl | rfl | rfl <;> rfl) ?_)
    have hbV : Below wr.heap.size wr ((wr.alloc (.cells #[.int .i64 0, .int .i64 0, .int .i64 0, .slice none 0 0, .int .i64 0, .string ⟨#[]⟩, .bool false, .bool false, .int .i64 0, .string ⟨#[]⟩, .bool false, .bool false, .int .i64 0, .int .i64 0, .bool false] 57)).setRow wr.heap.size #[.int .i64 f.id, .int .i64 f.get, .int .i64 f.give, .slice aff f.fds.length pff, .int .i64 f.tun.up.r, .string f.tun.up.b, .bool f.tun.up.e, .bool f.tun.up.k, .int .i64 f.tun.dn.r, .string f.tun.dn.b, .bool f.tun.dn.e, .bool f.tun.dn.k, .int .i64 f.tun.went, .int .i64 f.tun.came, .bool f.ended]) := below_setRow ((Below.refl _ _).alloc (Nat.le_refl _) _) (Nat.le_refl _) #[.int .i64 f.id, .int .i64 f.get, .int .i64 f.give, .slice aff f.fds.length pff, .int .i64 f.tun.up.r, .string f.tun.up.b, .bool f.tun.up.e, .bool f.tun.up.k, .int .i64 f.tun.dn.r, .string f.tun.dn.b, .bool f.tun.dn.e, .bool f.tun.dn.k, .int .i64 f.tun.went, .int .i64 f.tun.came, .bool f.ended]
    have RY : RowIs ((wr.alloc (.cells #[.int .i64 0, .int .i64 0, .int .i64 0, .slice none 0 0, .int .i64 0, .string ⟨#[]⟩, .bool false, .bool false, .int .i64 0, .string ⟨#[]⟩, .bool false, .bool false, .int .i64 0, .int .i64 0, .bool false] 57)).setRow wr.heap.size #[.int .i64 f.id, .int .i64 f.get, .int .i64 f.give, .slice aff f.fds.length pff, .int .i64 f.tun.up.r, .string f.tun.up.b, .bool f.tun.up.e, .bool f.tun.up.k, .int .i64 f.tun.dn.r, .string f.tun.dn.b, .bool f.tun.dn.e, .bool f.tun.dn.k, .int .i64 f.tun.went, .int .i64 f.tun.came, .bool f.ended]) wr.heap.size 57 [.int .i64 f.id, .int .i64 f.get, .int .i64 f.give, .slice aff f.fds.length pff, .int .i64 f.tun.up.r, .string f.tun.up.b, .bool f.tun.up.e, .bool f.tun.up.k, .int .i64 f.tun.dn.r, .string f.tun.dn.b, .bool f.tun.dn.e, .bool f.tun.dn.k, .int .i64 f.tun.went, .int .i64 f.tun.came, .bool f.ended] := rowIs_setRow (cs' := [.int .i64 f.id, .int .i64 f.get, .int .i64 f.give, .slice aff f.fds.length pff, .int .i64 f.tun.up.r, .string f.tun.up.b, .bool f.tun.up.e, .bool f.tun.up.k, .int .i64 f.tun.dn.r, .string f.tun.dn.b, .bool f.tun.dn.e, .bool f.tun.dn.k, .int .i64 f.tun.went, .int .i64 f.tun.came, .bool f.ended]) (rowIs_new wr 57 [.int .i64 0, .int .i64 0, .int .i64 0, .slice none 0 0, .int .i64 0, .string ⟨#[]⟩, .bool false, .bool false, .int .i64 0, .string ⟨#[]⟩, .bool false, .bool false, .int .i64 0, .int .i64 0, .bool false])
    have RXV := RX.new hbV
    have ceV := (hbV.cell (p := ⟨be, oe + i * 2, none⟩) hbe).trans ce0
    have hbeV : be < ((wr.alloc (.cells #[.int .i64 0, .int .i64 0, .int .i64 0, .slice none 0 0, .int .i64 0, .string ⟨#[]⟩, .bool false, .bool false, .int .i64 0, .string ⟨#[]⟩, .bool false, .bool false, .int .i64 0, .int .i64 0, .bool false] 57)).setRow wr.heap.size #[.int .i64 f.id, .int .i64 f.get, .int .i64 f.give, .slice aff f.fds.length pff, .int .i64 f.tun.up.r, .string f.tun.up.b, .bool f.tun.up.e, .bool f.tun.up.k, .int .i64 f.tun.dn.r, .string f.tun.dn.b, .bool f.tun.dn.e, .bool f.tun.dn.k, .int .i64 f.tun.went, .int .i64 f.tun.came, .bool f.ended]).heap.size := Nat.lt_of_lt_of_le hbe hbV.size
    replace HFD := hide (HFD.out.new hbV)
    replace HBW := hide (bchain HBW.out hbV)
    generalize (wr.alloc (.cells #[.int .i64 0, .int .i64 0, .int .i64 0, .slice none 0 0, .int .i64 0, .string ⟨#[]⟩, .bool false, .bool false, .int .i64 0, .string ⟨#[]⟩, .bool false, .bool false, .int .i64 0, .int .i64 0, .bool false] 57)).setRow wr.heap.size #[.int .i64 f.id, .int .i64 f.get, .int .i64 f.give, .slice aff f.fds.length pff, .int .i64 f.tun.up.r, .string f.tun.up.b, .bool f.tun.up.e, .bool f.tun.up.k, .int .i64 f.tun.dn.r, .string f.tun.dn.b, .bool f.tun.dn.e, .bool f.tun.dn.k, .int .i64 f.tun.went, .int .i64 f.tun.came, .bool f.ended] = V at *
    generalize wr.heap.size = gy at *
    clear hbV RX ce0 x10 c0 c1 c2 c3 c4 c5 c6 c7 c8 c9 c10 c11 c12 c13 c14 HRX
    have x2 := RowIs.cell (j := 2) RXV rfl
    have hlx := RXV.lt
    have hly := RY.lt
    have q2 : ∀ y : Later V, y.w.cell? ⟨w.heap.size, 2, none⟩ = some (.slice (some ⟨be, oe, none⟩) d.reg.es.length pe) := fun y => (y.b.cell (p := ⟨w.heap.size, 2, none⟩) hlx).trans x2
    have qe : ∀ y : Later V, y.w.cell? ⟨be, oe + i * 2, none⟩ = some (.int .i64 e.id) := fun y => (y.b.cell (p := ⟨be, oe + i * 2, none⟩) hbeV).trans ceV
    have y0 := RowIs.cell (j := 0) RY rfl
    have r0 : ∀ y : Later V, y.w.cell? ⟨gy, 0, none⟩ = some (.int .i64 f.id) := fun y => (y.b.cell (p := ⟨gy, 0, none⟩) hly).trans y0
    have y1 := RowIs.cell (j := 1) RY rfl
    have r1 : ∀ y : Later V, y.w.cell? ⟨gy, 1, none⟩ = some (.int .i64 f.get) := fun y => (y.b.cell (p := ⟨gy, 1, none⟩) hly).trans y1
    have y2 := RowIs.cell (j := 2) RY rfl
    have r2 : ∀ y : Later V, y.w.cell? ⟨gy, 2, none⟩ = some (.int .i64 f.give) := fun y => (y.b.cell (p := ⟨gy, 2, none⟩) hly).trans y2
    have y3 := RowIs.cell (j := 3) RY rfl
    have r3 : ∀ y : Later V, y.w.cell? ⟨gy, 3, none⟩ = some (.slice aff f.fds.length pff) := fun y => (y.b.cell (p := ⟨gy, 3, none⟩) hly).trans y3
    have y4 := RowIs.cell (j := 4) RY rfl
    have r4 : ∀ y : Later V, y.w.cell? ⟨gy, 4, none⟩ = some (.int .i64 f.tun.up.r) := fun y => (y.b.cell (p := ⟨gy, 4, none⟩) hly).trans y4
    have y5 := RowIs.cell (j := 5) RY rfl
    have r5 : ∀ y : Later V, y.w.cell? ⟨gy, 5, none⟩ = some (.string f.tun.up.b) := fun y => (y.b.cell (p := ⟨gy, 5, none⟩) hly).trans y5
    have y6 := RowIs.cell (j := 6) RY rfl
    have r6 : ∀ y : Later V, y.w.cell? ⟨gy, 6, none⟩ = some (.bool f.tun.up.e) := fun y => (y.b.cell (p := ⟨gy, 6, none⟩) hly).trans y6
    have y7 := RowIs.cell (j := 7) RY rfl
    have r7 : ∀ y : Later V, y.w.cell? ⟨gy, 7, none⟩ = some (.bool f.tun.up.k) := fun y => (y.b.cell (p := ⟨gy, 7, none⟩) hly).trans y7
    have y8 := RowIs.cell (j := 8) RY rfl
    have r8 : ∀ y : Later V, y.w.cell? ⟨gy, 8, none⟩ = some (.int .i64 f.tun.dn.r) := fun y => (y.b.cell (p := ⟨gy, 8, none⟩) hly).trans y8
    have y9 := RowIs.cell (j := 9) RY rfl
    have r9 : ∀ y : Later V, y.w.cell? ⟨gy, 9, none⟩ = some (.string f.tun.dn.b) := fun y => (y.b.cell (p := ⟨gy, 9, none⟩) hly).trans y9
    have y10 := RowIs.cell (j := 10) RY rfl
    have r10 : ∀ y : Later V, y.w.cell? ⟨gy, 10, none⟩ = some (.bool f.tun.dn.e) := fun y => (y.b.cell (p := ⟨gy, 10, none⟩) hly).trans y10
    have y11 := RowIs.cell (j := 11) RY rfl
    have r11 : ∀ y : Later V, y.w.cell? ⟨gy, 11, none⟩ = some (.bool f.tun.dn.k) := fun y => (y.b.cell (p := ⟨gy, 11, none⟩) hly).trans y11
    have y12 := RowIs.cell (j := 12) RY rfl
    have r12 : ∀ y : Later V, y.w.cell? ⟨gy, 12, none⟩ = some (.int .i64 f.tun.went) := fun y => (y.b.cell (p := ⟨gy, 12, none⟩) hly).trans y12
    have y13 := RowIs.cell (j := 13) RY rfl
    have r13 : ∀ y : Later V, y.w.cell? ⟨gy, 13, none⟩ = some (.int .i64 f.tun.came) := fun y => (y.b.cell (p := ⟨gy, 13, none⟩) hly).trans y13
    have y14 := RowIs.cell (j := 14) RY rfl
    have r14 : ∀ y : Later V, y.w.cell? ⟨gy, 14, none⟩ = some (.bool f.ended) := fun y => (y.b.cell (p := ⟨gy, 14, none⟩) hly).trans y14
    clear x2 ceV y0 y1 y2 y3 y4 y5 y6 y7 y8 y9 y10 y11 y12 y13 y14 RY
    have HRX := hide RXV
    clear RXV
    have hlteI : (i : Int) < d.reg.es.length := by omega
    try simp only [Act.put, List.getElem_toArray, List.getElem_cons_succ, List.getElem_cons_zero, List.setIfInBounds_toArray, List.set_cons_zero, List.set_cons_succ]
    by_cases c0 : f.id = e.id
    rotate_left
    · have c0' : (f.id != e.id) = true := by simpa using c0
      have HN := hide (HNOi.out (okFl_no (fun h => c0 h.1)))
      clear c0
      have hne : Nonempty (Later V) := ⟨⟨V, Below.refl _ _⟩⟩; refine region_later (by kernel_rfl) (by kernel_rfl) ?_
      repeat (go_big_quiet_step (fail))
      refine wpQuiet_nil ?_; intro _ hw'; obtain ⟨y, hw''⟩ := hw'; subst hw''; have hby := y.b
      go_wp2_with fail
      go_ret
      exact ⟨by rw [HN.out]; rfl, bchain HBW.out hby⟩
    have c0' : (f.id != e.id) = false := by simpa using c0
    have HC0 := hide c0
    clear c0
    cases m0 : winB f.get
    · have HN := hide (HNOi.out (okFl_no (fun h => by rw [m0] at h; simp at h)))
      have hne : Nonempty (Later V) := ⟨⟨V, Below.refl _ _⟩⟩; refine region_later (by kernel_rfl) (by kernel_rfl) ?_
      repeat (go_big_quiet_step (fail))
      go_big_quiet_want; go_big_quiet_op
      refine ⟨.bool false, fun y => later_same (x := y) (by have := specWin f.get y.w; rw [m0] at this; exact this), ?_⟩
      go_big_quiet_on
      repeat (go_big_quiet_step (fail))
      refine wpQuiet_nil ?_; intro _ hw'; obtain ⟨y, hw''⟩ := hw'; subst hw''; have hby := y.b
      go_wp2_with fail
      go_ret
      exact ⟨by rw [HN.out]; rfl, bchain HBW.out hby⟩
    cases m1 : winB f.give
    · have HN := hide (HNOi.out (okFl_no (fun h => by rw [m1] at h; simp at h)))
      have hne : Nonempty (Later V) := ⟨⟨V, Below.refl _ _⟩⟩; refine region_later (by kernel_rfl) (by kernel_rfl) ?_
      repeat (go_big_quiet_step (fail))
      go_big_quiet_want; go_big_quiet_op
      refine ⟨.bool true, fun y => later_same (x := y) (by have := specWin f.get y.w; rw [m0] at this; exact this), ?_⟩
      go_big_quiet_on
      repeat (go_big_quiet_step (fail))
      go_big_quiet_want; go_big_quiet_op
      refine ⟨.bool false, fun y => later_same (x := y) (by have := specWin f.give y.w; rw [m1] at this; exact this), ?_⟩
      go_big_quiet_on
      repeat (go_big_quiet_step (fail))
      refine wpQuiet_nil ?_; intro _ hw'; obtain ⟨y, hw''⟩ := hw'; subst hw''; have hby := y.b
      go_wp2_with fail
      go_ret
      exact ⟨by rw [HN.out]; rfl, bchain HBW.out hby⟩
    cases m2 : okFs f.fds
    · have HN := hide (HNOi.out (okFl_no (fun h => by rw [m2] at h; simp at h)))
      have hne : Nonempty (Later V) := ⟨⟨V, Below.refl _ _⟩⟩; refine region_later (by kernel_rfl) (by kernel_rfl) ?_
      repeat (go_big_quiet_step (fail))
      go_big_quiet_want; go_big_quiet_op
      refine ⟨.bool true, fun y => later_same (x := y) (by have := specWin f.get y.w; rw [m0] at this; exact this), ?_⟩
      go_big_quiet_on
      repeat (go_big_quiet_step (fail))
      go_big_quiet_want; go_big_quiet_op
      refine ⟨.bool true, fun y => later_same (x := y) (by have := specWin f.give y.w; rw [m1] at this; exact this), ?_⟩
      go_big_quiet_on
      repeat (go_big_quiet_step (fail))
      go_big_quiet_want; go_big_quiet_op
      refine ⟨.bool false, fun y => later_calls (x := y) (by have := specFields f.fds _ y.w (rd_fv (HFD.out.new y.b)) (rd_fine (HFD.out.new y.b)); rw [m2] at this; exact this), ?_⟩
      go_big_quiet_on
      repeat (go_big_quiet_step (fail))
      refine wpQuiet_nil ?_; intro _ hw'; obtain ⟨y, hw''⟩ := hw'; subst hw''; have hby := y.b
      go_wp2_with fail
      go_ret
      exact ⟨by rw [HN.out]; rfl, bchain HBW.out hby⟩
    cases m3 : okTu f.tun
    · have HN := hide (HNOi.out (okFl_no (fun h => by rw [m3] at h; simp at h)))
      have hne : Nonempty (Later V) := ⟨⟨V, Below.refl _ _⟩⟩; refine region_later (by kernel_rfl) (by kernel_rfl) ?_
      repeat (go_big_quiet_step (fail))
      go_big_quiet_want; go_big_quiet_op
      refine ⟨.bool true, fun y => later_same (x := y) (by have := specWin f.get y.w; rw [m0] at this; exact this), ?_⟩
      go_big_quiet_on
      repeat (go_big_quiet_step (fail))
      go_big_quiet_want; go_big_quiet_op
      refine ⟨.bool true, fun y => later_same (x := y) (by have := specWin f.give y.w; rw [m1] at this; exact this), ?_⟩
      go_big_quiet_on
      repeat (go_big_quiet_step (fail))
      go_big_quiet_want; go_big_quiet_op
      refine ⟨.bool true, fun y => later_calls (x := y) (by have := specFields f.fds _ y.w (rd_fv (HFD.out.new y.b)) (rd_fine (HFD.out.new y.b)); rw [m2] at this; exact this), ?_⟩
      go_big_quiet_on
      repeat (go_big_quiet_step (fail))
      go_big_quiet_want; go_big_quiet_op
      refine ⟨.bool false, fun y => later_calls (x := y) (by have := specTunnelOk f.tun y.w (by unfold maxLen; omega) (by unfold maxLen; omega); rw [m3] at this; exact this), ?_⟩
      go_big_quiet_on
      repeat (go_big_quiet_step (fail))
      refine wpQuiet_nil ?_; intro _ hw'; obtain ⟨y, hw''⟩ := hw'; subst hw''; have hby := y.b
      go_wp2_with fail
      go_ret
      exact ⟨by rw [HN.out]; rfl, bchain HBW.out hby⟩
    have HY := hide (HYi.out (okFl_yes HC0.out m0 m1 m2 m3))
    have hne : Nonempty (Later V) := ⟨⟨V, Below.refl _ _⟩⟩; refine region_later (by kernel_rfl) (by kernel_rfl) ?_
    repeat (go_big_quiet_step (fail))
    go_big_quiet_want; go_big_quiet_op
    refine ⟨.bool true, fun y => later_same (x := y) (by have := specWin f.get y.w; rw [m0] at this; exact this), ?_⟩
    go_big_quiet_on
    repeat (go_big_quiet_step (fail))
    go_big_quiet_want; go_big_quiet_op
    refine ⟨.bool true, fun y => later_same (x := y) (by have := specWin f.give y.w; rw [m1] at this; exact this), ?_⟩
    go_big_quiet_on
    repeat (go_big_quiet_step (fail))
    go_big_quiet_want; go_big_quiet_op
    refine ⟨.bool true, fun y => later_calls (x := y) (by have := specFields f.fds _ y.w (rd_fv (HFD.out.new y.b)) (rd_fine (HFD.out.new y.b)); rw [m2] at this; exact this), ?_⟩
    go_big_quiet_on
    repeat (go_big_quiet_step (fail))
    go_big_quiet_want; go_big_quiet_op
    refine ⟨.bool true, fun y => later_calls (x := y) (by have := specTunnelOk f.tun y.w (by unfold maxLen; omega) (by unfold maxLen; omega); rw [m3] at this; exact this), ?_⟩
    go_big_quiet_on
    repeat (go_big_quiet_step (fail))
    refine wpQuiet_nil ?_; intro _ hw'; obtain ⟨y, hw''⟩ := hw'; subst hw''; have hby := y.b
    replace HRX := hide (HRX.out.new hby)
    replace HBW := hide (bchain HBW.out hby)
    generalize y.w = V2 at *
    clear hby hne q2 qe r0 r1 r2 r3 r4 r5 r6 r7 r8 r9 r10 r11 r12 r13 r14
    have x10 := RowIs.cell (j := 10) HRX.out rfl
    go_wp2_with fail
    go_roundw
    case rel => exact ⟨i + 1, by go_num, by omega, HY, HRX, HBW⟩
    case measure => simp [intOf]; omega
end Go.Proofs.YtfmeinkhdgbgjaaGreat
/- Connections in plain words: what is told are right frames; how many streams there are. -/
namespace Go.Proofs.YtfmeinkhdgbgjaaGreat
open Go.RowKit
set_option maxRecDepth 100000
set_option linter.unusedSimpArgs false
set_option linter.unusedVariables false
theorem app_told {P : Fr → Prop} {a b : List Fr} (h : ∀ x ∈ a, P x) (h' : ∀ x ∈ b, P x) : ∀ x ∈ a ++ b, P x := by
  intro x hx
  rcases List.mem_append.1 hx with hx | hx
  · exact h x hx
  · exact h' x hx
theorem nil_told {P : Fr → Prop} : ∀ x ∈ ([] : List Fr), P x := fun x hx => by cases hx
end Go.Proofs.YtfmeinkhdgbgjaaGreat
/- The program's copy of a list, each item by its own apart: Fields. -/
namespace Go.Proofs.YtfmeinkhdgbgjaaGreat
open Go.RowKit
set_option maxRecDepth 100000
set_option linter.unusedSimpArgs false
set_option linter.unusedVariables false
theorem fv_same (L : List Fd) (k : Nat) (h : k < L.length) : ((fv L).set (k * 2) (.string L[k].n)).set (k * 2 + 1) (.string L[k].v) = fv L := by
  obtain ⟨s0, s1⟩ := fv_get L k h
  rw [list_set_same s0, list_set_same s1]
theorem mApartFd (v : Value) (w : World) : (Go.method 457 163 v "loop.example/g00296/impl.apart").run Tryz.prog w = .ok (284, v) w := by kernel_rfl
set_option maxHeartbeats 4000000 in
theorem implEachField (L : List Fd) (v : Value) (w : World) (hr : RdR fieldS w v L) (hok : okFs L = true) :
    Calls Tryz.prog 332 #[v] w fun x w' => ∃ v', x = .returned v' ∧ w'.ownsRow w.heap.size 163 2 v' L.length (fv L) ∧ Below w.heap.size w w' := by
  obtain ⟨aa, pa, rfl, q1, q2⟩ := hr.form
  have hall : ∀ f ∈ L, okF f = true := by unfold okFs at hok; simp only [Bool.and_eq_true] at hok; exact fun f hf => List.all_eq_true.1 hok.1 f hf
  have h20 : L.length ≤ 20 := by unfold okFs at hok; simp only [Bool.and_eq_true, decide_eq_true_eq] at hok; exact hok.2
  have HV := hide hr; have HALL := hide hall
  clear hr hall hok
  have hme := mApartFd
  go_enter Tryz.func332, Tryz.ntmps332
  go_wp2_with fail
  refine (implCloneField _ L.length (fv L) _ (rd_fv HV.out) (fv_one _) (by omega)).mono ?_; rintro e W1 ⟨vb, rfl, ho, hb⟩
  obtain ⟨ab, pb, rfl, p1, p2⟩ := owns_form ho
  have HO := hide ho; have HB := hide hb
  clear ho hb
  go_wp2_with fail
  go_loopw [10, 4, 5] (fun i _ _ wr => ∃ k : Nat, i = .int .i64 k ∧ k ≤ L.length ∧ Hid (wr.ownsRow w.heap.size 163 2 (.slice ab L.length pb) L.length (fv L)) ∧ Hid (Below w.heap.size w wr)) (fun i _ _ _ => L.length - (intOf i).toNat)
  case atStart => exact ⟨0, rfl, Nat.zero_le _, HO, HB⟩
  case round =>
    clear HO HB
    obtain ⟨k, rfl, hk, HO, HB⟩ := hrel
    by_cases hlt : k < L.length
    rotate_left
    · have hltI : ¬ (k : Int) < L.length := by omega
      go_wp2_with fail
      go_ret
      exact ⟨_, rfl, HO.out, HB.out⟩
    · have hltI : (k : Int) < L.length := by omega
      obtain ⟨gc, cap2, hvc, hob, hlo, hgcl, _, _, _⟩ := owns_open HO.out (by omega)
      simp only [Value.slice.injEq, true_and] at hvc
      obtain ⟨rfl, rfl⟩ := hvc
      obtain ⟨s0, s1⟩ := fv_get L k hlt
      have hfl2 : (fv L).length = L.length * 2 := fv_len _
      have c0 : wr.cell? ⟨gc, k * 2, none⟩ = some (.string L[k].n) := by rw [HO.out.cellAt _ (by omega)]; exact s0
      have c1 : wr.cell? ⟨gc, k * 2 + 1, none⟩ = some (.string L[k].v) := by rw [HO.out.cellAt _ (by omega)]; exact s1
      have HSAME := hide (fv_same L k hlt)
      have hokk := HALL.out _ (List.getElem_mem hlt)
      obtain ⟨y, hy⟩ : ∃ y, L[k] = y := ⟨_, rfl⟩
      rw [hy] at c0 c1 HSAME hokk s0 s1
      have HFG := hide (And.intro s0 s1)
      clear s0 s1 hy hfl2
      go_upto_region 5 with fail
      have hX : Below wr.heap.size wr (wr.alloc (.cells #[.string y.n, .string y.v] 163)) := (Below.refl _ _).alloc (Nat.le_refl _) _
      have RX := rowIs_new wr 163 [.string y.n, .string y.v]
      replace HO := hide (owns_new HO.out hX)
      replace HB := hide (bchain HB.out hX)
      clear c0 c1 hX hgcl
      generalize wr.heap.size = ge at *
      generalize wr.alloc (.cells #[.string y.n, .string y.v] 163) = X at *
      have x0 := RX.cell (j := 0) rfl
      have x1 := RX.cell (j := 1) rfl
      have xl := RX.lt
      go_wp2_with fail
      refine (apart1 y _ hokk).mono ?_; rintro e w3 ⟨rfl, hb3⟩
      replace HO := hide (owns_new HO.out hb3)
      replace HB := hide (bchain HB.out hb3)
      clear x0 x1 xl RX hb3
      have hfl2 : (fv L).length = L.length * 2 := fv_len _
      have c0 : w3.cell? ⟨gc, k * 2, none⟩ = some (.string y.n) := by rw [HO.out.cellAt _ (by omega)]; exact HFG.out.1
      have c1 : w3.cell? ⟨gc, k * 2 + 1, none⟩ = some (.string y.v) := by rw [HO.out.cellAt _ (by omega)]; exact HFG.out.2
      have zf := fun j => HO.out.frozenAt j
      have zl := (owns_lt HO.out gc rfl).2
      have ho3 := owns_set (owns_set HO.out (g := gc) rfl (k * 2) (.string y.n)) (g := gc) rfl (k * 2 + 1) (.string y.v)
      rw [HSAME.out] at ho3
      have HO3 := hide ho3
      have HB3 := hide ((HB.out.setCell (p := ⟨gc, k * 2, none⟩) hlo (.string y.n)).setCell (p := ⟨gc, k * 2 + 1, none⟩) hlo (.string y.v))
      clear ho3 hfl2
      go_wp2_with fail
      go_roundw
      case rel => exact ⟨k + 1, by go_num, by omega, HO3, HB3⟩
      case measure => simp [intOf]; omega
end Go.Proofs.YtfmeinkhdgbgjaaGreat
/- A Conn in memory: marked, read again (by gen_shconn.py). -/
namespace Go.Proofs.YtfmeinkhdgbgjaaGreat
open Go.RowKit
set_option maxRecDepth 100000
set_option linter.unusedSimpArgs false
set_option linter.unusedVariables false
theorem OwR.apart {D : Type} {E : Shp D} {w w' : World} {v : Value} {L : List D} {bs bs' : List Nat} (h : OwR E w v L bs) (ht : TurnB bs' w w') (ha : ∀ x ∈ bs, x ∉ bs') : OwR E w' v L bs := h.keep ht.size (fun b hb => ht.block b (h.lt b hb) (ha b hb))
set_option maxHeartbeats 4000000 in
theorem markConn1 (d : CnD) (ve vi vo vf : Value) (k : Nat) (bs : List Nat) (w : World) (ho : CnOw w bs d ve vi vo vf) (hk1 : k + cntConn d ≤ 1000000000) :
    Calls Tryz.prog 31 #[cnv d ve vi vo vf, .int .i64 k] w fun x w' => x = .returned (.int .i64 ((k + cntConn d : Nat) : Int)) ∧ CnOw w' bs (mkConn d k) ve vi vo vf ∧ TurnB bs w w' := by
  dsimp only [cnv] at *
  obtain ⟨⟨be, bi, bo, bf, h1, h2, h3, h4, rfl⟩, hn⟩ := ho
  obtain ⟨ae, pe, rfl, _⟩ := h1.rd.form
  obtain ⟨ai, pi, rfl, _⟩ := h2.rd.form
  obtain ⟨ao, po, rfl, _⟩ := h3.rd.form
  obtain ⟨af, pf, rfl, _⟩ := h4.rd.form
  have hd : (∀ x ∈ be, x ∉ bi ∧ x ∉ bo ∧ x ∉ bf) ∧ (∀ x ∈ bi, x ∉ be ∧ x ∉ bo ∧ x ∉ bf) ∧ (∀ x ∈ bo, x ∉ be ∧ x ∉ bi ∧ x ∉ bf) ∧ (∀ x ∈ bf, x ∉ be ∧ x ∉ bi ∧ x ∉ bo) := by
    simp only [List.nodup_append, List.mem_append] at hn
    obtain ⟨⟨⟨n1, n2, n3⟩, n4, n5⟩, n6, n7⟩ := hn
    exact ⟨fun x hx => ⟨fun h => n3 x hx x h rfl, fun h => n5 x (.inl hx) x h rfl, fun h => n7 x (.inl (.inl hx)) x h rfl⟩, fun x hx => ⟨fun h => n3 x h x hx rfl, fun h => n5 x (.inr hx) x h rfl, fun h => n7 x (.inl (.inr hx)) x h rfl⟩,
      fun x hx => ⟨fun h => n5 x (.inl h) x hx rfl, fun h => n5 x (.inr h) x hx rfl, fun h => n7 x (.inr hx) x h rfl⟩, fun x hx => ⟨fun h => n7 x (.inl (.inl h)) x hx rfl, fun h => n7 x (.inl (.inr h)) x hx rfl, fun h => n7 x (.inr h) x hx rfl⟩⟩
  have hnn : be.Nodup ∧ bi.Nodup ∧ bo.Nodup ∧ bf.Nodup := by
    simp only [List.nodup_append] at hn
    obtain ⟨⟨⟨n1, n2, n3⟩, n4, n5⟩, n6, n7⟩ := hn
    exact ⟨n1, n2, n4, n6⟩
  obtain ⟨d1, d2, d3, d4⟩ := hd
  have HD1 := hide d1; have HD2 := hide d2; have HD3 := hide d3; have HD4 := hide d4; have HN := hide hn
  obtain ⟨m1, m2, m3, m4⟩ := hnn
  have HM1 := hide m1; have HM4 := hide m4
  clear d1 d2 d3 d4 hn m1 m2 m3 m4
  have hlt : ∀ b, b = w.heap.size → b ∉ be ∧ b ∉ bi ∧ b ∉ bo ∧ b ∉ bf := fun b e => ⟨fun h => by have := h1.lt b h; omega, fun h => by have := h2.lt b h; omega, fun h => by have := h3.lt b h; omega, fun h => by have := h4.lt b h; omega⟩
  obtain ⟨l1, l2, l3, l4⟩ := hlt _ rfl
  have HL := hide (And.intro l1 (And.intro l2 (And.intro l3 l4)))
  clear l1 l2 l3 l4 hlt
  have RX := rowIs_new w 32 [.int .i64 d.reg.lim, .int .i64 d.reg.top, .slice ae d.reg.es.length pe, .int .i64 d.inr, .slice ai d.inT.length pi, .int .i64 d.outr, .slice ao d.outT.length po, .int .i64 d.get, .int .i64 d.give, .int .i64 d.first, .slice af d.flows.length pf, .bool d.away, .bool d.dead]
  have hbx : Below w.heap.size w (w.alloc (.cells #[.int .i64 d.reg.lim, .int .i64 d.reg.top, .slice ae d.reg.es.length pe, .int .i64 d.inr, .slice ai d.inT.length pi, .int .i64 d.outr, .slice ao d.outT.length po, .int .i64 d.get, .int .i64 d.give, .int .i64 d.first, .slice af d.flows.length pf, .bool d.away, .bool d.dead] 32)) := (Below.refl _ _).alloc (Nat.le_refl _) _
  replace h1 := hide (h1.keep hbx.size (fun b hb => hbx.block b (h1.lt b hb)))
  replace h2 := hide (h2.keep hbx.size (fun b hb => hbx.block b (h2.lt b hb)))
  replace h3 := hide (h3.keep hbx.size (fun b hb => hbx.block b (h3.lt b hb)))
  replace h4 := hide (h4.keep hbx.size (fun b hb => hbx.block b (h4.lt b hb)))
  have HT : Hid (TurnB (be ++ bi ++ bo ++ bf) w (w.alloc (.cells #[.int .i64 d.reg.lim, .int .i64 d.reg.top, .slice ae d.reg.es.length pe, .int .i64 d.inr, .slice ai d.inT.length pi, .int .i64 d.outr, .slice ao d.outT.length po, .int .i64 d.get, .int .i64 d.give, .int .i64 d.first, .slice af d.flows.length pf, .bool d.away, .bool d.dead] 32))) := TurnB.new hbx
  clear hbx
  unfold cntConn at hk1 ⊢
  obtain ⟨K1, hK1⟩ : ∃ K1, k + cntEntryS d.reg.es = K1 := ⟨_, rfl⟩
  obtain ⟨K2, hK2⟩ : ∃ K2, K1 + cntFieldS d.inT = K2 := ⟨_, rfl⟩
  obtain ⟨K3, hK3⟩ : ∃ K3, K2 + cntFieldS d.outT = K3 := ⟨_, rfl⟩
  obtain ⟨K4, hK4⟩ : ∃ K4, K3 + cntFlowS d.flows = K4 := ⟨_, rfl⟩
  rw [show k + (cntEntryS d.reg.es + cntFieldS d.inT + cntFieldS d.outT + cntFlowS d.flows) = K4 by omega]
  have HK : Hid (mkConn d k = ⟨⟨d.reg.lim, d.reg.top, mkEntryS d.reg.es k⟩, d.inr, mkFieldS d.inT K1, d.outr, mkFieldS d.outT K2, d.get, d.give, d.first, mkFlowS d.flows K3, d.away, d.dead⟩) := by show _ = _; unfold mkConn; rw [hK1, hK2, hK3]
  go_enter Tryz.func31, Tryz.ntmps31
  have x0 := RowIs.cell (j := 0) RX rfl
  have x1 := RowIs.cell (j := 1) RX rfl
  have x2 := RowIs.cell (j := 2) RX rfl
  go_wp2_with fail
  clear x0 x1 x2
  have hcl := markRegistry1 d.reg _ k be _ h1.out HM1.out (by omega)
  rw [hK1] at hcl
  refine hcl.mono ?_; clear hcl
  rintro x u0 ⟨rfl, ho, ht⟩
  replace h2 := hide (h2.out.apart ht (fun x hx => (HD2.out x hx).1))
  replace h3 := hide (h3.out.apart ht (fun x hx => (HD3.out x hx).1))
  replace h4 := hide (h4.out.apart ht (fun x hx => (HD4.out x hx).1))
  replace h1 := hide ho
  replace RX := RX.kept (ht.block _ RX.lt HL.out.1)
  replace HT := hide (HT.out.trans (ht.wide (fun x hx => by simp [hx])))
  clear ho ht
  have x3 := RowIs.cell (j := 3) RX rfl
  have x4 := RowIs.cell (j := 4) RX rfl
  go_wp2_with fail
  clear x3 x4
  have hcl := markTable2 d.inT d.inr K1 _ bi _ h2.out (by omega)
  rw [hK2] at hcl
  refine hcl.mono ?_; clear hcl
  rintro x u1 ⟨rfl, ho, ht⟩
  replace h1 := hide (h1.out.apart ht (fun x hx => (HD1.out x hx).1))
  replace h3 := hide (h3.out.apart ht (fun x hx => (HD3.out x hx).2.1))
  replace h4 := hide (h4.out.apart ht (fun x hx => (HD4.out x hx).2.1))
  replace h2 := hide ho
  replace RX := RX.kept (ht.block _ RX.lt HL.out.2.1)
  replace HT := hide (HT.out.trans (ht.wide (fun x hx => by simp [hx])))
  clear ho ht
  have x5 := RowIs.cell (j := 5) RX rfl
  have x6 := RowIs.cell (j := 6) RX rfl
  go_wp2_with fail
  clear x5 x6
  have hcl := markTable2 d.outT d.outr K2 _ bo _ h3.out (by omega)
  rw [hK3] at hcl
  refine hcl.mono ?_; clear hcl
  rintro x u2 ⟨rfl, ho, ht⟩
  replace h1 := hide (h1.out.apart ht (fun x hx => (HD1.out x hx).2.1))
  replace h2 := hide (h2.out.apart ht (fun x hx => (HD2.out x hx).2.1))
  replace h4 := hide (h4.out.apart ht (fun x hx => (HD4.out x hx).2.2))
  replace h3 := hide ho
  replace RX := RX.kept (ht.block _ RX.lt HL.out.2.2.1)
  replace HT := hide (HT.out.trans (ht.wide (fun x hx => by simp [hx])))
  clear ho ht
  have x10 := RowIs.cell (j := 10) RX rfl
  go_wp2_with fail
  clear x10
  have hcl := markFlowS d.flows K3 _ bf _ h4.out HM4.out (by omega)
  rw [hK4] at hcl
  refine hcl.mono ?_; clear hcl
  rintro x u3 ⟨rfl, ho, ht⟩
  replace h1 := hide (h1.out.apart ht (fun x hx => (HD1.out x hx).2.2))
  replace h2 := hide (h2.out.apart ht (fun x hx => (HD2.out x hx).2.2))
  replace h3 := hide (h3.out.apart ht (fun x hx => (HD3.out x hx).2.2))
  replace h4 := hide ho
  replace RX := RX.kept (ht.block _ RX.lt HL.out.2.2.2)
  replace HT := hide (HT.out.trans (ht.wide (fun x hx => by simp [hx])))
  clear ho ht
  go_wp2_with fail
  go_ret
  rw [HK.out]
  exact ⟨rfl, ⟨⟨be, bi, bo, bf, h1.out, h2.out, h3.out, h4.out, rfl⟩, HN.out⟩, HT.out⟩
set_option maxHeartbeats 4000000 in
theorem heldConn1 (d q : CnD) (ve vi vo vf : Value) (k : Nat) (w : World) (hr : CnRd w (mkConn q k) ve vi vo vf) (hk1 : k + cntConn q ≤ 1000000000) :
    Calls Tryz.prog 33 #[cnv d ve vi vo vf, .int .i64 k] w fun x w' => x = .returned (.int .i64 ((k + cntConn q : Nat) : Int)) ∧ Below w.heap.size w w' := by
  dsimp only [cnv] at *
  unfold cntConn at hk1 ⊢
  obtain ⟨K1, hK1⟩ : ∃ K1, k + cntEntryS q.reg.es = K1 := ⟨_, rfl⟩
  obtain ⟨K2, hK2⟩ : ∃ K2, K1 + cntFieldS q.inT = K2 := ⟨_, rfl⟩
  obtain ⟨K3, hK3⟩ : ∃ K3, K2 + cntFieldS q.outT = K3 := ⟨_, rfl⟩
  obtain ⟨K4, hK4⟩ : ∃ K4, K3 + cntFlowS q.flows = K4 := ⟨_, rfl⟩
  rw [show k + (cntEntryS q.reg.es + cntFieldS q.inT + cntFieldS q.outT + cntFlowS q.flows) = K4 by omega]
  have he := hide hr.e
  have hi := hide hr.i
  have ho := hide hr.o
  have hf := hide hr.f
  clear hr
  unfold mkConn at he hi ho hf
  dsimp only at he hi ho hf
  rw [hK1] at hi
  rw [hK1, hK2] at ho
  rw [hK1, hK2, hK3] at hf
  obtain ⟨ae, pe, rfl, _⟩ := he.out.form
  obtain ⟨ai, pi, rfl, _⟩ := hi.out.form
  obtain ⟨ao, po, rfl, _⟩ := ho.out.form
  obtain ⟨af, pf, rfl, _⟩ := hf.out.form
  obtain ⟨ne, hne⟩ : ∃ n, n = (mkEntryS q.reg.es k).length := ⟨_, rfl⟩
  rw [← hne] at he ⊢
  clear hne
  obtain ⟨ni, hni⟩ : ∃ n, n = (mkFieldS q.inT K1).length := ⟨_, rfl⟩
  rw [← hni] at hi ⊢
  clear hni
  obtain ⟨no, hno⟩ : ∃ n, n = (mkFieldS q.outT K2).length := ⟨_, rfl⟩
  rw [← hno] at ho ⊢
  clear hno
  obtain ⟨nf, hnf⟩ : ∃ n, n = (mkFlowS q.flows K3).length := ⟨_, rfl⟩
  rw [← hnf] at hf ⊢
  clear hnf
  have HK1 := hide hK1; have HK2 := hide hK2; have HK3 := hide hK3; have HK4 := hide hK4
  have b1 : K1 ≤ 1000000000 := by omega
  have b2 : K2 ≤ 1000000000 := by omega
  have b3 : K3 ≤ 1000000000 := by omega
  have b4 : K4 ≤ 1000000000 := by omega
  clear hK1 hK2 hK3 hK4 hk1
  have RX := rowIs_new w 32 [.int .i64 d.reg.lim, .int .i64 d.reg.top, .slice ae ne pe, .int .i64 d.inr, .slice ai ni pi, .int .i64 d.outr, .slice ao no po, .int .i64 d.get, .int .i64 d.give, .int .i64 d.first, .slice af nf pf, .bool d.away, .bool d.dead]
  have HB : Below w.heap.size w (w.alloc (.cells #[.int .i64 d.reg.lim, .int .i64 d.reg.top, .slice ae ne pe, .int .i64 d.inr, .slice ai ni pi, .int .i64 d.outr, .slice ao no po, .int .i64 d.get, .int .i64 d.give, .int .i64 d.first, .slice af nf pf, .bool d.away, .bool d.dead] 32)) := (Below.refl _ _).alloc (Nat.le_refl _) _
  go_enter Tryz.func33, Tryz.ntmps33
  have x0 := RowIs.cell (j := 0) RX rfl
  have x1 := RowIs.cell (j := 1) RX rfl
  have x2 := RowIs.cell (j := 2) RX rfl
  have xf := fun j => RowIs.frozen RX j
  have xl := RX.lt
  go_wp2_with fail
  clear x0 x1 x2 xf xl
  have hcl := heldRegistry1 ⟨d.reg.lim, d.reg.top, []⟩ _ k _ q.reg.es (he.out.new HB) (by rw [HK1.out]; exact b1)
  rw [HK1.out] at hcl
  refine hcl.mono ?_; clear hcl
  rintro x u0 ⟨rfl, hb⟩
  have hp0 : ¬ ((K1 : Nat) : Int) < 0 := by omega
  replace RX := RX.new hb
  replace HB := bchain HB hb
  clear hb
  have x3 := RowIs.cell (j := 3) RX rfl
  have x4 := RowIs.cell (j := 4) RX rfl
  have xf := fun j => RowIs.frozen RX j
  have xl := RX.lt
  go_wp2_with fail
  clear x3 x4 xf xl
  have hcl := heldTable2 q.inT d.inr K1 _ _ (hi.out.new HB) (by rw [HK2.out]; exact b2)
  rw [HK2.out] at hcl
  refine hcl.mono ?_; clear hcl
  rintro x u1 ⟨rfl, hb⟩
  have hp1 : ¬ ((K2 : Nat) : Int) < 0 := by omega
  replace RX := RX.new hb
  replace HB := bchain HB hb
  clear hb
  have x5 := RowIs.cell (j := 5) RX rfl
  have x6 := RowIs.cell (j := 6) RX rfl
  have xf := fun j => RowIs.frozen RX j
  have xl := RX.lt
  go_wp2_with fail
  clear x5 x6 xf xl
  have hcl := heldTable2 q.outT d.outr K2 _ _ (ho.out.new HB) (by rw [HK3.out]; exact b3)
  rw [HK3.out] at hcl
  refine hcl.mono ?_; clear hcl
  rintro x u2 ⟨rfl, hb⟩
  have hp2 : ¬ ((K3 : Nat) : Int) < 0 := by omega
  replace RX := RX.new hb
  replace HB := bchain HB hb
  clear hb
  have x10 := RowIs.cell (j := 10) RX rfl
  have xf := fun j => RowIs.frozen RX j
  have xl := RX.lt
  go_wp2_with fail
  clear x10 xf xl
  have hcl := heldFlowS q.flows K3 _ _ (hf.out.new HB) (by rw [HK4.out]; exact b4)
  rw [HK4.out] at hcl
  refine hcl.mono ?_; clear hcl
  rintro x u3 ⟨rfl, hb⟩
  have hp3 : ¬ ((K4 : Nat) : Int) < 0 := by omega
  replace RX := RX.new hb
  replace HB := bchain HB hb
  clear hb
  go_wp2_with fail
  go_ret
  exact ⟨rfl, HB⟩
end Go.Proofs.YtfmeinkhdgbgjaaGreat
/- A Conn of the laws that came in: what its lists read as. -/
namespace Go.Proofs.YtfmeinkhdgbgjaaGreat
open Go.RowKit
set_option maxRecDepth 100000
set_option linter.unusedSimpArgs false
set_option linter.unusedVariables false
section
open Go.ChangeShapes Go.WideShapes Go.ChangeAt Go.Joins
variable {H : Type} {enc : TypeId × Value → H} {W : World} {base : Nat} {spare : Nat → Bool} {held : Bool}
theorem trod_part {t : TypeId} {fs : Array Field} {fuel : Nat} {cs : List Value} {x : DataW H × List MemPlace} (ht : Tryz.prog.underlying t = some (.struct fs)) (h : DataW.trod enc Tryz.prog W base spare held fuel t cs = some x) :
    ∃ n, cs.length = Tryz.prog.cellsOf t ∧ ∀ f ∈ fs.toList, ∃ y, DataW.trod enc Tryz.prog W base spare held n f.type ((cs.drop f.offset).take (Tryz.prog.cellsOf f.type)) = some y := by
  obtain ⟨xs, n, _, _, hl, hlen, hf⟩ := DataW.trod_struct ht h
  refine ⟨n, hl, fun f hm => ?_⟩
  obtain ⟨i, hi'⟩ := List.getElem?_of_mem hm
  have hi : fs[i]? = some f := by rw [← Array.getElem?_toList]; exact hi'
  have hi2 : i < xs.length := by rw [hlen]; exact (Array.getElem?_eq_some_iff.1 hi).1
  exact ⟨xs[i], by rw [hf i f hi]; simp [hi2]⟩
theorem list13 {α : Type} {cs : List α} (h : cs.length = 13) : ∃ c0 c1 c2 c3 c4 c5 c6 c7 c8 c9 c10 c11 c12, cs = [c0, c1, c2, c3, c4, c5, c6, c7, c8, c9, c10, c11, c12] := by
  match cs, h with
  | [c0, c1, c2, c3, c4, c5, c6, c7, c8, c9, c10, c11, c12], _ => exact ⟨c0, c1, c2, c3, c4, c5, c6, c7, c8, c9, c10, c11, c12, rfl⟩
theorem list15 {α : Type} {cs : List α} (h : cs.length = 15) : ∃ c0 c1 c2 c3 c4 c5 c6 c7 c8 c9 c10 c11 c12 c13 c14, cs = [c0, c1, c2, c3, c4, c5, c6, c7, c8, c9, c10, c11, c12, c13, c14] := by
  match cs, h with
  | [c0, c1, c2, c3, c4, c5, c6, c7, c8, c9, c10, c11, c12, c13, c14], _ => exact ⟨c0, c1, c2, c3, c4, c5, c6, c7, c8, c9, c10, c11, c12, c13, c14, rfl⟩
theorem trod_pipeG {n : Nat} {c0 c1 c2 c3 : Value} {y : DataW H × List MemPlace} (h : DataW.trod enc Tryz.prog W base spare held n 187 [c0, c1, c2, c3] = some y) :
    ∃ p : PpD, p.b.size ≤ 9223372036854775807 ∧ c0 = .int .i64 p.r ∧ c1 = .string p.b ∧ c2 = .bool p.e ∧ c3 = .bool p.k := by
  obtain ⟨m, _, hf⟩ := trod_part Tryz.underlying187 h
  simp only [List.forall_mem_cons, List.not_mem_nil, false_imp_iff, implies_true, and_true] at hf
  obtain ⟨⟨y0, h0⟩, ⟨y1, h1⟩, ⟨y2, h2⟩, ⟨y3, h3⟩⟩ := hf
  have k0 : Tryz.prog.cellsOf 2 = 1 := by kernel_rfl
  have k1 : Tryz.prog.cellsOf 9 = 1 := by kernel_rfl
  have k2 : Tryz.prog.cellsOf 4 = 1 := by kernel_rfl
  simp only [k0, k1, k2, List.drop_zero, List.drop_succ_cons, List.take_succ_cons, List.take_zero] at h0 h1 h2 h3
  obtain ⟨a, e0, _, wa⟩ := DataW.trod_int Tryz.underlying2 h0
  obtain ⟨s, e1, _, ws⟩ := DataW.trod_string Tryz.underlying9 h1
  obtain ⟨x, e2, _⟩ := DataW.trod_bool Tryz.underlying4 h2
  obtain ⟨z, e3, _⟩ := DataW.trod_bool Tryz.underlying4 h3
  simp at e0 e1 e2 e3
  exact ⟨⟨a, s, x, z⟩, by unfold maxLen at ws; simp only; omega, e0, e1, e2, e3⟩
theorem trod_tunG {n : Nat} {c0 c1 c2 c3 c4 c5 c6 c7 c8 c9 : Value} {y : DataW H × List MemPlace} (h : DataW.trod enc Tryz.prog W base spare held n 189 [c0, c1, c2, c3, c4, c5, c6, c7, c8, c9] = some y) :
    ∃ t : TuD, t.up.b.size ≤ 9223372036854775807 ∧ t.dn.b.size ≤ 9223372036854775807 ∧ [c0, c1, c2, c3, c4, c5, c6, c7, c8, c9] = tucs t := by
  obtain ⟨m, _, hf⟩ := trod_part Tryz.underlying189 h
  simp only [List.forall_mem_cons, List.not_mem_nil, false_imp_iff, implies_true, and_true] at hf
  obtain ⟨⟨y0, h0⟩, ⟨y1, h1⟩, ⟨y2, h2⟩, ⟨y3, h3⟩⟩ := hf
  have k0 : Tryz.prog.cellsOf 2 = 1 := by kernel_rfl
  have k1 : Tryz.prog.cellsOf 187 = 4 := by kernel_rfl
  simp only [k0, k1, List.drop_zero, List.drop_succ_cons, List.take_succ_cons, List.take_zero] at h0 h1 h2 h3
  obtain ⟨p1, q1, rfl, rfl, rfl, rfl⟩ := trod_pipeG h0
  obtain ⟨p2, q2, rfl, rfl, rfl, rfl⟩ := trod_pipeG h1
  obtain ⟨a, e0, _, wa⟩ := DataW.trod_int Tryz.underlying2 h2
  obtain ⟨a', e1, _, wa'⟩ := DataW.trod_int Tryz.underlying2 h3
  simp at e0 e1
  subst e0 e1
  exact ⟨⟨p1, p2, a, a'⟩, q1, q2, rfl⟩
theorem open_cellsFlow {fuel : Nat} {cs : List Value} {x : DataW H × List MemPlace} (h : DataW.trod enc Tryz.prog W base spare held fuel 191 cs = some x) : ∃ d : FlD, flowS.rd W cs d := by
  obtain ⟨m, hl, hf⟩ := trod_part Tryz.underlying191 h
  have hc : Tryz.prog.cellsOf 191 = 15 := by kernel_rfl
  obtain ⟨c0, c1, c2, c3, c4, c5, c6, c7, c8, c9, c10, c11, c12, c13, c14, rfl⟩ := list15 (hl.trans hc)
  simp only [List.forall_mem_cons, List.not_mem_nil, false_imp_iff, implies_true, and_true] at hf
  obtain ⟨⟨y0, h0⟩, ⟨y1, h1⟩, ⟨y2, h2⟩, ⟨y3, h3⟩, ⟨y4, h4⟩, ⟨y5, h5⟩⟩ := hf
  have k0 : Tryz.prog.cellsOf 2 = 1 := by kernel_rfl
  have k1 : Tryz.prog.cellsOf 61 = 1 := by kernel_rfl
  have k2 : Tryz.prog.cellsOf 189 = 10 := by kernel_rfl
  have k3 : Tryz.prog.cellsOf 4 = 1 := by kernel_rfl
  simp only [k0, k1, k2, k3, List.drop_zero, List.drop_succ_cons, List.take_succ_cons, List.take_zero] at h0 h1 h2 h3 h4 h5
  obtain ⟨i0, e0, _⟩ := DataW.trod_int Tryz.underlying2 h0
  obtain ⟨i1, e1, _⟩ := DataW.trod_int Tryz.underlying2 h1
  obtain ⟨i2, e2, _⟩ := DataW.trod_int Tryz.underlying2 h2
  obtain ⟨L3, hL3⟩ := open_shape (E := fieldS) ⟨⟨#[]⟩, ⟨#[]⟩⟩ Tryz.underlying61 (by kernel_rfl) (fun cs n y hy => open_cellsField hy) h3
  obtain ⟨t, t1, t2, et⟩ := trod_tunG h4
  obtain ⟨i5, e5, _⟩ := DataW.trod_bool Tryz.underlying4 h5
  simp only [List.cons.injEq, and_true] at e0 e1 e2 e5 et
  obtain ⟨rfl, rfl, rfl, rfl, rfl, rfl, rfl, rfl, rfl, rfl⟩ := et
  subst e0 e1 e2 e5
  exact ⟨⟨i0, i1, i2, L3, t, i5⟩, c3, rfl, t1, t2, hL3⟩
theorem open_Conn {v : Value} {d : DataW H} {p : List MemPlace} (hv : Value.okWide Tryz.prog W .any base 66 v)
    (h : DataW.Trod enc Tryz.prog W 0 (fun _ => true) true 66 v d p) : ∃ (d : CnD) (ve vi vo vf : Value), v = cnv d ve vi vo vf ∧ CnRd W d ve vi vo vf := by
  obtain ⟨cs, rfl, hsz⟩ := okWide_struct Tryz.underlying66 hv
  have hc : Tryz.prog.cellsOf 66 = 13 := by kernel_rfl
  obtain ⟨fuel, hfu⟩ := h
  obtain ⟨l⟩ := cs
  obtain ⟨c0, c1, c2, c3, c4, c5, c6, c7, c8, c9, c10, c11, c12, rfl⟩ := list13 (show l.length = 13 from hsz.trans hc)
  obtain ⟨m, hl, hf⟩ := trod_part Tryz.underlying66 hfu
  simp only [List.forall_mem_cons, List.not_mem_nil, false_imp_iff, implies_true, and_true] at hf
  obtain ⟨⟨y0, h0⟩, ⟨y1, h1⟩, ⟨y2, h2⟩, ⟨y3, h3⟩, ⟨y4, h4⟩, ⟨y5, h5⟩, ⟨y6, h6⟩, ⟨y7, h7⟩, ⟨y8, h8⟩⟩ := hf
  have k0 : Tryz.prog.cellsOf 2 = 1 := by kernel_rfl
  have k1 : Tryz.prog.cellsOf 60 = 3 := by kernel_rfl
  have k2 : Tryz.prog.cellsOf 63 = 2 := by kernel_rfl
  have k3 : Tryz.prog.cellsOf 4 = 1 := by kernel_rfl
  have k4 : Tryz.prog.cellsOf 64 = 1 := by kernel_rfl
  have k5 : Tryz.prog.cellsOf 58 = 1 := by kernel_rfl
  have k6 : Tryz.prog.cellsOf 61 = 1 := by kernel_rfl
  simp only [Value.cells, k0, k1, k2, k3, k4, List.drop_zero, List.drop_succ_cons, List.take_succ_cons, List.take_zero] at h0 h1 h2 h3 h4 h5 h6 h7 h8
  obtain ⟨m0, _, g0⟩ := trod_part Tryz.underlying60 h0
  simp only [List.forall_mem_cons, List.not_mem_nil, false_imp_iff, implies_true, and_true] at g0
  obtain ⟨⟨z0, j0⟩, ⟨z1, j1⟩, ⟨z2, j2⟩⟩ := g0
  simp only [k0, k5, List.drop_zero, List.drop_succ_cons, List.take_succ_cons, List.take_zero] at j0 j1 j2
  obtain ⟨a0, e0, _⟩ := DataW.trod_int Tryz.underlying2 j0
  obtain ⟨a1, e1, _⟩ := DataW.trod_int Tryz.underlying2 j1
  obtain ⟨Le, hLe⟩ := open_shape (E := entryS) ⟨0, 0⟩ Tryz.underlying58 (by kernel_rfl) (fun cs n y hy => open_cellsEntry hy) j2
  obtain ⟨m1, _, g1⟩ := trod_part Tryz.underlying63 h1
  simp only [List.forall_mem_cons, List.not_mem_nil, false_imp_iff, implies_true, and_true] at g1
  obtain ⟨⟨z3, j3⟩, ⟨z4, j4⟩⟩ := g1
  simp only [k0, k6, List.drop_zero, List.drop_succ_cons, List.take_succ_cons, List.take_zero] at j3 j4
  obtain ⟨a3, e3, _⟩ := DataW.trod_int Tryz.underlying2 j3
  obtain ⟨Li, hLi⟩ := open_shape (E := fieldS) ⟨⟨#[]⟩, ⟨#[]⟩⟩ Tryz.underlying61 (by kernel_rfl) (fun cs n y hy => open_cellsField hy) j4
  obtain ⟨m2, _, g2⟩ := trod_part Tryz.underlying63 h2
  simp only [List.forall_mem_cons, List.not_mem_nil, false_imp_iff, implies_true, and_true] at g2
  obtain ⟨⟨z5, j5⟩, ⟨z6, j6⟩⟩ := g2
  simp only [k0, k6, List.drop_zero, List.drop_succ_cons, List.take_succ_cons, List.take_zero] at j5 j6
  obtain ⟨a5, e5, _⟩ := DataW.trod_int Tryz.underlying2 j5
  obtain ⟨Lo, hLo⟩ := open_shape (E := fieldS) ⟨⟨#[]⟩, ⟨#[]⟩⟩ Tryz.underlying61 (by kernel_rfl) (fun cs n y hy => open_cellsField hy) j6
  obtain ⟨a7, e7, _⟩ := DataW.trod_int Tryz.underlying2 h3
  obtain ⟨a8, e8, _⟩ := DataW.trod_int Tryz.underlying2 h4
  obtain ⟨a9, e9, _⟩ := DataW.trod_int Tryz.underlying2 h5
  obtain ⟨Lf, hLf⟩ := open_shape (E := flowS) ⟨0, 0, 0, [], zTu, false⟩ Tryz.underlying64 (by kernel_rfl) (fun cs n y hy => open_cellsFlow hy) h6
  obtain ⟨b11, e11, _⟩ := DataW.trod_bool Tryz.underlying4 h7
  obtain ⟨b12, e12, _⟩ := DataW.trod_bool Tryz.underlying4 h8
  simp only [List.cons.injEq, and_true] at e0 e1 e3 e5 e7 e8 e9 e11 e12
  subst e0 e1 e3 e5 e7 e8 e9 e11 e12
  exact ⟨⟨⟨a0, a1, Le⟩, a3, Li, a5, Lo, a7, a8, a9, Lf, b11, b12⟩, c2, c4, c6, c10, rfl, hLe, hLi, hLo, hLf⟩
end
end Go.Proofs.YtfmeinkhdgbgjaaGreat
