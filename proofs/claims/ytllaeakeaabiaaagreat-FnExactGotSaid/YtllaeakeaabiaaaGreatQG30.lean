/- Several small texts of one level, one behind the other. -/
import Derived.Test.YtllaeakeaabiaaaGreatQG24
import Derived.Test.YtllaeakeaabiaaaGreatQG29
import Derived.Test.YtllaeakeaabiaaaGreatQG8
import Derived.Test.YtllaeakeaabiaaaGreatQG26
import Derived.Test.YtllaeakeaabiaaaGreatQG25
import Derived.Test.YtllaeakeaabiaaaGreatQSB
import Derived.Test.YtllaeakeaabiaaaGreatQG6
import Derived.Test.YtllaeakeaabiaaaGreatQG4
import Derived.Test.YtllaeakeaabiaaaGreatQG5
import Derived.Test.YtllaeakeaabiaaaGreatQG2
/- Chapter 17's model in place: given to a stream. -/
namespace Go.Proofs.YtllaeakeaabiaaaGreat
open Go.RowKit
set_option maxRecDepth 100000
set_option linter.unusedSimpArgs false
set_option linter.unusedVariables false
theorem bck_size {t : TuD} {s : ByteArray} {fin : Bool} (hk : okTu t = true) (hs : s.size ≤ 1048576) (h1 : t.up.b.size ≤ 9223372036854775807) : (bckTu t s fin).1.up.b.size ≤ 9223372036854775807 ∧ (bckTu t s fin).1.dn.b.size ≤ 9223372036854775807 := by
  have hpd := okPp_true (okTu_true hk).2.1
  unfold bckTu
  rw [if_neg (by rw [hk]; decide)]
  refine ⟨h1, ?_⟩
  show (t.dn.b ++ s.extract 0 (bckN t s)).size ≤ _
  rw [ByteArray.size_append, ByteArray.size_extract]
  omega
end Go.Proofs.YtllaeakeaabiaaaGreat
/- A Conn in a block: its windows set, another table, one more Flow. -/
namespace Go.Proofs.YtllaeakeaabiaaaGreat
open Go.RowKit
set_option maxRecDepth 100000
set_option linter.unusedSimpArgs false
set_option linter.unusedVariables false
section
variable {D : Type} {E : Shp D}
/-- A row that is owned, opened for an append: what the append leaves, block by block. -/
theorem OwR.grow {w : World} {v : Value} {L : List D} {bs : List Nat} (h : OwR E w v L bs) (hn : bs.Nodup) : ∃ xs, w.ownsRow 0 E.ty E.size v L.length xs ∧
    ∀ (w1 : World) (v' : Value) (cs : List Value) (x : D) (b : List Nat), E.own w cs x b → b.Nodup → (∀ q ∈ b, q ∉ bs) → w1.ownsRow 0 E.ty E.size v' (L.length + 1) (xs ++ cs) → w.grownBy w1 v.ownBlock → (v'.ownBlock = v.ownBlock ∨ v'.ownBlock = some w.heap.size) →
      ∃ bs', OwR E w1 v' (L ++ [x]) bs' ∧ bs'.Nodup ∧ ∀ q ∈ bs', q ∈ bs ∨ q ∈ b ∨ q = w.heap.size := by
  obtain ⟨ts, hL, ho, hE, rfl⟩ := h
  have hlen : L.length = ts.length := by rw [hL]; simp
  refine ⟨ts.flatMap (·.1), by rw [hlen]; exact ho, fun w1 v' cs x b hx hbn hbd ho' hg hat => ?_⟩
  have hap := nodup_apart hn
  have hlt2 := E.own_lt hx
  have hkeep : ∀ x, x < w.heap.size → (∀ g, v.ownBlock = some g → x ≠ g) → w1.heap[x]? = w.heap[x]? := fun x hx hne => hg.block x hx (fun e => by
    cases hv : v.ownBlock with
    | none => rw [hv] at e; simp at e
    | some g => rw [hv] at e; simp at e; exact hne g hv e)
  have hlt1 : ∀ q ∈ ts.flatMap (·.2.2), q < w.heap.size := fun q hq => by
    obtain ⟨t, ht, hq⟩ := List.mem_flatMap.1 hq
    exact E.own_lt (hE t ht) q hq
  refine ⟨v'.ownBlock.toList ++ (ts.flatMap (·.2.2) ++ b), ⟨ts ++ [(cs, x, b)], by simp [hL], by rw [hlen] at ho'; simpa using ho', fun t ht => ?_, by simp⟩, ?_, ?_⟩
  · rcases List.mem_append.1 ht with ht | ht
    · refine E.own_keep (hE t ht) hg.size fun x hx => ?_
      have hx' : x ∈ ts.flatMap (·.2.2) := List.mem_flatMap.2 ⟨t, ht, hx⟩
      exact hkeep x (E.own_lt (hE t ht) x hx) fun g hgv e => hap g (by simp [hgv]) (e ▸ hx')
    · simp at ht
      subst ht
      exact E.own_keep hx hg.size fun y hy => hkeep y (hlt2 y hy) fun g hgv e => hbd y hy (by subst e; simp [hgv])
  · refine nodup_mk (opt_nodup _) (nodup_mk (nodup_right hn) hbn fun y hy hy2 => hbd y hy2 (by simp [hy])) fun y hy hy2 => ?_
    have hyv : v'.ownBlock = some y := by cases hv : v'.ownBlock <;> simp [hv] at hy ⊢; exact hy.symm
    rcases hat with e | e
    · have hyo := e ▸ hyv
      rcases List.mem_append.1 hy2 with h | h
      · exact hap y (by simp [hyo]) h
      · exact hbd y h (by simp [hyo])
    · have hys : y = w.heap.size := by rw [hyv] at e; exact Option.some.inj e
      rcases List.mem_append.1 hy2 with h | h
      · have := hlt1 y h; omega
      · have := hlt2 y h; omega
  · intro q hq
    rcases List.mem_append.1 hq with hq | hq
    · have hyv : v'.ownBlock = some q := by cases hv : v'.ownBlock <;> simp [hv] at hq ⊢; exact hq.symm
      rcases hat with e | e
      · exact .inl (by simp [e ▸ hyv])
      · exact .inr (.inr (by rw [hyv] at e; exact Option.some.inj e))
    · rcases List.mem_append.1 hq with h | h
      · exact .inl (by simp [h])
      · exact .inr (.inl h)
end
theorem CnM.keepSet {w : World} {g : Nat} {bs : List Nat} {p : Addr} (h3 : g ∉ bs) (hp : p.block = g) (v : Value) : ∀ b ∈ bs, (w.setCell p v).heap[b]? = w.heap[b]? := fun b hb => Below.heap_setCell w _ _ b (fun e => h3 (by have e' : b = g := e.trans hp; rw [← e']; exact hb))
theorem CnM.setGive {w : World} {g : Nat} {d : CnD} {bs : List Nat} (h : CnM w g d bs) (n : Int) : CnM (w.setCell ⟨g, 8, none⟩ (.int .i64 n)) g { d with give := n } bs := by
  obtain ⟨⟨ve, vi, vo, vf, h1, h2⟩, h3⟩ := h
  refine ⟨⟨ve, vi, vo, vf, h1.set 8 (.int .i64 n), ?_⟩, h3⟩
  obtain ⟨hx, hn⟩ := h2.keep (w' := w.setCell ⟨g, 8, none⟩ (.int .i64 n)) (by simp) (CnM.keepSet h3 rfl _)
  exact ⟨hx, hn⟩
theorem CnM.setFirst {w : World} {g : Nat} {d : CnD} {bs : List Nat} (h : CnM w g d bs) (n : Int) : CnM (w.setCell ⟨g, 9, none⟩ (.int .i64 n)) g { d with first := n } bs := by
  obtain ⟨⟨ve, vi, vo, vf, h1, h2⟩, h3⟩ := h
  refine ⟨⟨ve, vi, vo, vf, h1.set 9 (.int .i64 n), ?_⟩, h3⟩
  obtain ⟨hx, hn⟩ := h2.keep (w' := w.setCell ⟨g, 9, none⟩ (.int .i64 n)) (by simp) (CnM.keepSet h3 rfl _)
  exact ⟨hx, hn⟩
theorem CnM.setAway {w : World} {g : Nat} {d : CnD} {bs : List Nat} (h : CnM w g d bs) : CnM (w.setCell ⟨g, 11, none⟩ (.bool true)) g { d with away := true } bs := by
  obtain ⟨⟨ve, vi, vo, vf, h1, h2⟩, h3⟩ := h
  refine ⟨⟨ve, vi, vo, vf, h1.set 11 (.bool true), ?_⟩, h3⟩
  obtain ⟨hx, hn⟩ := h2.keep (w' := w.setCell ⟨g, 11, none⟩ (.bool true)) (by simp) (CnM.keepSet h3 rfl _)
  exact ⟨hx, hn⟩
theorem CnM.lts {w : World} {g : Nat} {d : CnD} {bs : List Nat} (h : CnM w g d bs) : ∀ b ∈ g :: bs, b < w.heap.size := fun b hb => by
  rcases List.mem_cons.1 hb with rfl | hb
  · exact h.lt
  · obtain ⟨⟨_, _, _, _, _, hc⟩, _⟩ := h
    exact hc.lt _ hb
/-- Another InTable, whose row was made by a call. -/
theorem CnM.setIn {w : World} {g : Nat} {d : CnD} {bs : List Nat} (h : CnM w g d bs) (r : Int) (T : List Fd) (v : Value) (ho : OwR fieldS w v T v.ownBlock.toList) (hf : ∀ q, v.ownBlock = some q → q ∉ g :: bs) :
    ∃ bs', CnM ((w.setCell ⟨g, 3, none⟩ (.int .i64 r)).setCell ⟨g, 4, none⟩ v) g { d with inr := r, inT := T } bs' ∧ ∀ b ∈ bs', b ∈ bs ∨ v.ownBlock = some b := by
  obtain ⟨⟨ve, vi, vo, vf, hrow, ⟨be, bi, bo, bf, h1, h2, h3, h4, rfl⟩, hn⟩, hng⟩ := h
  have hmem : ∀ x ∈ v.ownBlock.toList, v.ownBlock = some x := fun x hx => by cases hv : v.ownBlock <;> simp [hv] at hx ⊢; exact hx.symm
  have hk : ∀ b, b ≠ g → ((w.setCell ⟨g, 3, none⟩ (.int .i64 r)).setCell ⟨g, 4, none⟩ v).heap[b]? = w.heap[b]? := fun b hb => by
    rw [Below.heap_setCell _ _ _ b (show b ≠ g from hb), Below.heap_setCell _ _ _ b (show b ≠ g from hb)]
  have hne : ∀ b ∈ be ++ bi ++ bo ++ bf, b ≠ g := fun b hb e => hng (e ▸ hb)
  have hs : w.heap.size ≤ ((w.setCell ⟨g, 3, none⟩ (.int .i64 r)).setCell ⟨g, 4, none⟩ v).heap.size := by simp
  refine ⟨be ++ v.ownBlock.toList ++ bo ++ bf, ⟨⟨ve, v, vo, vf, (hrow.set 3 (.int .i64 r)).set 4 v, ⟨be, v.ownBlock.toList, bo, bf, h1.keep hs (fun b hb => hk b (hne b (by simp [hb]))), ho.keep hs (fun b hb => hk b (fun e => hf b (hmem b hb) (by simp [e]))), h3.keep hs (fun b hb => hk b (hne b (by simp [hb]))), h4.keep hs (fun b hb => hk b (hne b (by simp [hb]))), rfl⟩, ?_⟩, ?_⟩, ?_⟩
  · have hn' : (be ++ (bo ++ bf)).Nodup := by
      have : List.Sublist (be ++ (bo ++ bf)) (be ++ bi ++ bo ++ bf) := by
        rw [List.append_assoc, List.append_assoc]
        exact (List.Sublist.refl be).append (List.sublist_append_right bi _)
      exact this.nodup hn
    have hd : ∀ x ∈ v.ownBlock.toList, x ∉ be ∧ x ∉ bo ++ bf := fun x hx => by
      have := hf x (hmem x hx)
      simp only [List.mem_cons, List.mem_append, not_or] at this ⊢
      exact ⟨this.2.1.1.1, this.2.1.2, this.2.2⟩
    rw [List.append_assoc, List.append_assoc]
    refine nodup_mk (nodup_left hn') (nodup_mk (opt_nodup _) (nodup_right hn') fun x hx hx2 => (hd x hx).2 hx2) fun x hx hx2 => ?_
    rcases List.mem_append.1 hx2 with e | e
    · exact (hd x e).1 hx
    · exact nodup_apart hn' x hx e
  · intro hg
    simp only [List.mem_append] at hg hng
    rcases hg with ((hg | hg) | hg) | hg
    · exact hng (.inl (.inl (.inl hg)))
    · exact hf g (hmem g hg) (by simp)
    · exact hng (.inl (.inr hg))
    · exact hng (.inr hg)
  · intro b hb
    simp only [List.mem_append] at hb ⊢
    rcases hb with ((hb | hb) | hb) | hb
    · exact .inl (.inl (.inl (.inl hb)))
    · exact .inr (hmem b hb)
    · exact .inl (.inl (.inr hb))
    · exact .inl (.inr hb)
/-- The Flows of a Conn in place, opened for an append. -/
theorem CnM.grow {w : World} {g : Nat} {d : CnD} {bs : List Nat} (h : CnM w g d bs) :
    ∃ ve vi vo a p xs, RowIs w g 43 (cncs d ve vi vo (.slice a d.flows.length p)) ∧ w.ownsRow 0 89 15 (.slice a d.flows.length p) d.flows.length xs ∧ (∀ q, (Value.slice a d.flows.length p).ownBlock = some q → q ∈ bs) ∧
      ∀ (w1 : World) (v' : Value) (f : FlD) (vq : Value) (b : List Nat), flowS.own w (flcs f vq) f b → b.Nodup → (∀ q ∈ b, q ∉ g :: bs) → w1.ownsRow 0 89 15 v' (d.flows.length + 1) (xs ++ flcs f vq) → w.grownBy w1 (Value.slice a d.flows.length p).ownBlock → (v'.ownBlock = (Value.slice a d.flows.length p).ownBlock ∨ v'.ownBlock = some w.heap.size) →
        ∃ bs', CnM (w1.setCell ⟨g, 10, none⟩ v') g { d with flows := d.flows ++ [f] } bs' ∧ ∀ q ∈ bs', q ∈ bs ∨ q ∈ b ∨ q = w.heap.size := by
  have hlts := h.lts
  obtain ⟨⟨ve, vi, vo, vf, hrow, ⟨be, bi, bo, bf, h1, h2, h3, h4, rfl⟩, hn⟩, hng⟩ := h
  obtain ⟨a, p, hvf, _, _⟩ := h4.rd.form
  subst hvf
  have hnf : bf.Nodup := nodup_right hn
  obtain ⟨xs, hxs, hgrow⟩ := h4.grow hnf
  have hvb : ∀ q, (Value.slice a d.flows.length p).ownBlock = some q → q ∈ bf := fun q hq => by
    obtain ⟨ts, _, _, _, rfl⟩ := h4
    simp [hq]
  refine ⟨ve, vi, vo, a, p, xs, hrow, hxs, fun q hq => by simp [hvb q hq], fun w1 v' f vq b hx hbn hbd ho' hg hat => ?_⟩
  obtain ⟨bf', hO, hn', hsub⟩ := hgrow w1 v' (flcs f vq) f b hx hbn (fun q hq hq2 => hbd q hq (by simp [hq2])) ho' hg hat
  have hk1 : ∀ x, x < w.heap.size → x ∉ bf → w1.heap[x]? = w.heap[x]? := fun x hx hx2 => hg.block x hx (fun e => hx2 (hvb x e.symm))
  have hgb : g ∉ bf := fun e => hng (by simp [e])
  have hap : ∀ x ∈ be ++ bi ++ bo, x ∉ bf := nodup_apart hn
  have hgl : g < w.heap.size := hlts g (by simp)
  have hgs : (w1.setCell ⟨g, 10, none⟩ v').heap.size = w1.heap.size := by simp
  have hk2 : ∀ x, x ≠ g → (w1.setCell ⟨g, 10, none⟩ v').heap[x]? = w1.heap[x]? := fun x hx => Below.heap_setCell _ _ _ x (show x ≠ g from hx)
  have hk3 : ∀ x ∈ be ++ bi ++ bo, (w1.setCell ⟨g, 10, none⟩ v').heap[x]? = w.heap[x]? := fun x hx => (hk2 x (fun e => hng (by rw [← e]; exact List.mem_append_left _ hx))).trans (hk1 x (hlts x (by simp only [List.mem_cons, List.mem_append] at hx ⊢; rcases hx with (hx | hx) | hx <;> simp [hx])) (hap x hx))
  have hgf : g ∉ bf' := fun e => by
    rcases hsub g e with e | e | e
    · exact hgb e
    · exact hbd g e (by simp)
    · omega
  have hs : w.heap.size ≤ (w1.setCell ⟨g, 10, none⟩ v').heap.size := by rw [hgs]; exact hg.size
  have hrow1 : RowIs w1 g 43 (cncs d ve vi vo (.slice a d.flows.length p)) := hrow.kept (hk1 g hgl hgb)
  refine ⟨be ++ bi ++ bo ++ bf', ⟨⟨ve, vi, vo, v', hrow1.set 10 v', ⟨be, bi, bo, bf', h1.keep hs (fun b hb => hk3 b (by simp [hb])), h2.keep hs (fun b hb => hk3 b (by simp [hb])), h3.keep hs (fun b hb => hk3 b (by simp [hb])), hO.keep (by simp) (fun b hb => hk2 b (fun e => hgf (e ▸ hb))), rfl⟩, ?_⟩, ?_⟩, ?_⟩
  · refine nodup_mk (nodup_left hn) hn' fun x hx hx2 => ?_
    rcases hsub x hx2 with e | e | e
    · exact hap x hx e
    · exact hbd x e (List.mem_cons_of_mem _ (List.mem_append_left _ hx))
    · have := hlts x (List.mem_cons_of_mem _ (List.mem_append_left _ hx)); omega
  · intro e
    rcases List.mem_append.1 e with e | e
    · exact hng (List.mem_append_left _ e)
    · exact hgf e
  · intro q hq
    rcases List.mem_append.1 hq with e | e
    · exact .inl (List.mem_append_left _ e)
    · rcases hsub q e with e | e | e
      · exact .inl (List.mem_append_right _ e)
      · exact .inr (.inl e)
      · exact .inr (.inr e)
end Go.Proofs.YtllaeakeaabiaaaGreat
/- Chapter 17's model: which Conn is right; a new one (by gen_connspec.py). -/
namespace Go.Proofs.YtllaeakeaabiaaaGreat
open Go.RowKit
set_option maxRecDepth 100000
set_option linter.unusedSimpArgs false
set_option linter.unusedVariables false
theorem okCn_no {c : CnD} (h : ¬ (okRg c.reg = true ∧ okT c.inr c.inT = true ∧ okT c.outr c.outT = true ∧ winB c.get = true ∧ winB c.give = true ∧ inB c.first 0 16777215 = true ∧ okFls c.flows c.reg.es = true)) : okCn c = false := by
  cases e : okCn c
  · rfl
  · unfold okCn at e
    simp only [Bool.and_eq_true] at e
    obtain ⟨⟨⟨⟨⟨⟨a, b⟩, c⟩, d⟩, e⟩, f⟩, g⟩ := e
    exact absurd ⟨a, b, c, d, e, f, g⟩ h
theorem okCn_yes {c : CnD} (h1 : okRg c.reg = true) (h2 : okT c.inr c.inT = true) (h3 : okT c.outr c.outT = true) (h4 : winB c.get = true) (h5 : winB c.give = true) (h6 : inB c.first 0 16777215 = true) (h7 : okFls c.flows c.reg.es = true) : okCn c = true := by
  unfold okCn; rw [h1, h2, h3, h4, h5, h6, h7]; rfl
theorem okFls_no {fs : List FlD} {es : List EntryD} {i : Nat} (h : i < fs.length) (h' : i < es.length) (hn : okFl fs[i] es[i] = false) : okFls fs es = false := by
  cases e : okFls fs es
  · rfl
  · rw [okFls_get e i h h'] at hn; cases hn
theorem okFl_no {f : FlD} {e : EntryD} (h : ¬ (f.id = e.id ∧ winB f.get = true ∧ winB f.give = true ∧ okFs f.fds = true ∧ okTu f.tun = true)) : okFl f e = false := by
  cases q : okFl f e
  · rfl
  · unfold okFl at q
    simp only [Bool.and_eq_true, decide_eq_true_eq] at q
    obtain ⟨⟨⟨⟨a, b⟩, c⟩, d⟩, e⟩ := q
    exact absurd ⟨a, b, c, d, e⟩ h
theorem okFl_yes {f : FlD} {e : EntryD} (h1 : f.id = e.id) (h2 : winB f.get = true) (h3 : winB f.give = true) (h4 : okFs f.fds = true) (h5 : okTu f.tun = true) : okFl f e = true := by
  unfold okFl; rw [decide_eq_true h1, h2, h3, h4, h5]; rfl
set_option maxHeartbeats 8000000 in
theorem specConnOk (d : CnD) (ve vi vo vf : Value) (w : World) (hv : CnRd w d ve vi vo vf) : Calls Tryz.prog 22 #[cnv d ve vi vo vf] w fun x w' => x = .returned (.bool (okCn d)) ∧ Below w.heap.size w w' := by
  dsimp only [cnv] at *
  have HV := hide hv
  clear hv
  obtain ⟨ae, pe, rfl, _⟩ := HV.out.e.form
  obtain ⟨ai, pi, rfl, _⟩ := HV.out.i.form
  obtain ⟨ao, po, rfl, _⟩ := HV.out.o.form
  obtain ⟨af, pf, rfl, _⟩ := HV.out.f.form
  have RX := rowIs_new w 43 [.int .i64 d.reg.lim, .int .i64 d.reg.top, .slice ae d.reg.es.length pe, .int .i64 d.inr, .slice ai d.inT.length pi, .int .i64 d.outr, .slice ao d.outT.length po, .int .i64 d.get, .int .i64 d.give, .int .i64 d.first, .slice af d.flows.length pf, .bool d.away, .bool d.dead]
  have HB : Below w.heap.size w (w.alloc (.cells #[.int .i64 d.reg.lim, .int .i64 d.reg.top, .slice ae d.reg.es.length pe, .int .i64 d.inr, .slice ai d.inT.length pi, .int .i64 d.outr, .slice ao d.outT.length po, .int .i64 d.get, .int .i64 d.give, .int .i64 d.first, .slice af d.flows.length pf, .bool d.away, .bool d.dead] 43)) := (Below.refl _ _).alloc (Nat.le_refl _) _
  obtain ⟨lf, hlf⟩ : ∃ n, n = d.flows.length := ⟨_, rfl⟩
  obtain ⟨le, hle⟩ : ∃ n, n = d.reg.es.length := ⟨_, rfl⟩
  have HLF := hide hlf; have HLE := hide hle
  cases k1 : okRg d.reg
  · go_enter Tryz.func22, Tryz.ntmps22
    go_wp2_with fail
    refine (specRegistryOk d.reg _ _ (HV.out.e.new HB)).mono ?_; rw [k1]; rintro x u0 ⟨rfl, hb⟩
    replace RX := RX.new hb
    replace HB := bchain HB hb
    clear hb
    have x0 := RowIs.cell (j := 0) RX rfl
    have x1 := RowIs.cell (j := 1) RX rfl
    have x2 := RowIs.cell (j := 2) RX rfl
    have x3 := RowIs.cell (j := 3) RX rfl
    have x4 := RowIs.cell (j := 4) RX rfl
    have x5 := RowIs.cell (j := 5) RX rfl
    have x6 := RowIs.cell (j := 6) RX rfl
    have x7 := RowIs.cell (j := 7) RX rfl
    have x8 := RowIs.cell (j := 8) RX rfl
    have x9 := RowIs.cell (j := 9) RX rfl
    have x10 := RowIs.cell (j := 10) RX rfl
    have x11 := RowIs.cell (j := 11) RX rfl
    have x12 := RowIs.cell (j := 12) RX rfl
    go_wp2_with fail
    go_ret
    exact ⟨by rw [okCn_no (fun h => by rw [k1] at h; simp at h)]; rfl, HB⟩
  cases k2 : okT d.inr d.inT
  · go_enter Tryz.func22, Tryz.ntmps22
    go_wp2_with fail
    refine (specRegistryOk d.reg _ _ (HV.out.e.new HB)).mono ?_; rw [k1]; rintro x u0 ⟨rfl, hb⟩
    replace RX := RX.new hb
    replace HB := bchain HB hb
    clear hb
    have x0 := RowIs.cell (j := 0) RX rfl
    have x1 := RowIs.cell (j := 1) RX rfl
    have x2 := RowIs.cell (j := 2) RX rfl
    have x3 := RowIs.cell (j := 3) RX rfl
    have x4 := RowIs.cell (j := 4) RX rfl
    have x5 := RowIs.cell (j := 5) RX rfl
    have x6 := RowIs.cell (j := 6) RX rfl
    have x7 := RowIs.cell (j := 7) RX rfl
    have x8 := RowIs.cell (j := 8) RX rfl
    have x9 := RowIs.cell (j := 9) RX rfl
    have x10 := RowIs.cell (j := 10) RX rfl
    have x11 := RowIs.cell (j := 11) RX rfl
    have x12 := RowIs.cell (j := 12) RX rfl
    go_wp2_with fail
    refine (specTOk d.inT d.inr _ _ (rd_fv (HV.out.i.new HB)) (rd_fine (HV.out.i.new HB))).mono ?_; rw [k2]; rintro x u1 ⟨rfl, hb⟩
    replace RX := RX.new hb
    replace HB := bchain HB hb
    clear hb
    clear x0 x1 x2 x3 x4 x5 x6 x7 x8 x9 x10 x11 x12
    have x0 := RowIs.cell (j := 0) RX rfl
    have x1 := RowIs.cell (j := 1) RX rfl
    have x2 := RowIs.cell (j := 2) RX rfl
    have x3 := RowIs.cell (j := 3) RX rfl
    have x4 := RowIs.cell (j := 4) RX rfl
    have x5 := RowIs.cell (j := 5) RX rfl
    have x6 := RowIs.cell (j := 6) RX rfl
    have x7 := RowIs.cell (j := 7) RX rfl
    have x8 := RowIs.cell (j := 8) RX rfl
    have x9 := RowIs.cell (j := 9) RX rfl
    have x10 := RowIs.cell (j := 10) RX rfl
    have x11 := RowIs.cell (j := 11) RX rfl
    have x12 := RowIs.cell (j := 12) RX rfl
    go_wp2_with fail
    go_ret
    exact ⟨by rw [okCn_no (fun h => by rw [k2] at h; simp at h)]; rfl, HB⟩
  cases k3 : okT d.outr d.outT
  · go_enter Tryz.func22, Tryz.ntmps22
    go_wp2_with fail
    refine (specRegistryOk d.reg _ _ (HV.out.e.new HB)).mono ?_; rw [k1]; rintro x u0 ⟨rfl, hb⟩
    replace RX := RX.new hb
    replace HB := bchain HB hb
    clear hb
    have x0 := RowIs.cell (j := 0) RX rfl
    have x1 := RowIs.cell (j := 1) RX rfl
    have x2 := RowIs.cell (j := 2) RX rfl
    have x3 := RowIs.cell (j := 3) RX rfl
    have x4 := RowIs.cell (j := 4) RX rfl
    have x5 := RowIs.cell (j := 5) RX rfl
    have x6 := RowIs.cell (j := 6) RX rfl
    have x7 := RowIs.cell (j := 7) RX rfl
    have x8 := RowIs.cell (j := 8) RX rfl
    have x9 := RowIs.cell (j := 9) RX rfl
    have x10 := RowIs.cell (j := 10) RX rfl
    have x11 := RowIs.cell (j := 11) RX rfl
    have x12 := RowIs.cell (j := 12) RX rfl
    go_wp2_with fail
    refine (specTOk d.inT d.inr _ _ (rd_fv (HV.out.i.new HB)) (rd_fine (HV.out.i.new HB))).mono ?_; rw [k2]; rintro x u1 ⟨rfl, hb⟩
    replace RX := RX.new hb
    replace HB := bchain HB hb
    clear hb
    clear x0 x1 x2 x3 x4 x5 x6 x7 x8 x9 x10 x11 x12
    have x0 := RowIs.cell (j := 0) RX rfl
    have x1 := RowIs.cell (j := 1) RX rfl
    have x2 := RowIs.cell (j := 2) RX rfl
    have x3 := RowIs.cell (j := 3) RX rfl
    have x4 := RowIs.cell (j := 4) RX rfl
    have x5 := RowIs.cell (j := 5) RX rfl
    have x6 := RowIs.cell (j := 6) RX rfl
    have x7 := RowIs.cell (j := 7) RX rfl
    have x8 := RowIs.cell (j := 8) RX rfl
    have x9 := RowIs.cell (j := 9) RX rfl
    have x10 := RowIs.cell (j := 10) RX rfl
    have x11 := RowIs.cell (j := 11) RX rfl
    have x12 := RowIs.cell (j := 12) RX rfl
    go_wp2_with fail
    refine (specTOk d.outT d.outr _ _ (rd_fv (HV.out.o.new HB)) (rd_fine (HV.out.o.new HB))).mono ?_; rw [k3]; rintro x u2 ⟨rfl, hb⟩
    replace RX := RX.new hb
    replace HB := bchain HB hb
    clear hb
    clear x0 x1 x2 x3 x4 x5 x6 x7 x8 x9 x10 x11 x12
    have x0 := RowIs.cell (j := 0) RX rfl
    have x1 := RowIs.cell (j := 1) RX rfl
    have x2 := RowIs.cell (j := 2) RX rfl
    have x3 := RowIs.cell (j := 3) RX rfl
    have x4 := RowIs.cell (j := 4) RX rfl
    have x5 := RowIs.cell (j := 5) RX rfl
    have x6 := RowIs.cell (j := 6) RX rfl
    have x7 := RowIs.cell (j := 7) RX rfl
    have x8 := RowIs.cell (j := 8) RX rfl
    have x9 := RowIs.cell (j := 9) RX rfl
    have x10 := RowIs.cell (j := 10) RX rfl
    have x11 := RowIs.cell (j := 11) RX rfl
    have x12 := RowIs.cell (j := 12) RX rfl
    go_wp2_with fail
    go_ret
    exact ⟨by rw [okCn_no (fun h => by rw [k3] at h; simp at h)]; rfl, HB⟩
  cases k4 : winB d.get
  · go_enter Tryz.func22, Tryz.ntmps22
    go_wp2_with fail
    refine (specRegistryOk d.reg _ _ (HV.out.e.new HB)).mono ?_; rw [k1]; rintro x u0 ⟨rfl, hb⟩
    replace RX := RX.new hb
    replace HB := bchain HB hb
    clear hb
    have x0 := RowIs.cell (j := 0) RX rfl
    have x1 := RowIs.cell (j := 1) RX rfl
    have x2 := RowIs.cell (j := 2) RX rfl
    have x3 := RowIs.cell (j := 3) RX rfl
    have x4 := RowIs.cell (j := 4) RX rfl
    have x5 := RowIs.cell (j := 5) RX rfl
    have x6 := RowIs.cell (j := 6) RX rfl
    have x7 := RowIs.cell (j := 7) RX rfl
    have x8 := RowIs.cell (j := 8) RX rfl
    have x9 := RowIs.cell (j := 9) RX rfl
    have x10 := RowIs.cell (j := 10) RX rfl
    have x11 := RowIs.cell (j := 11) RX rfl
    have x12 := RowIs.cell (j := 12) RX rfl
    go_wp2_with fail
    refine (specTOk d.inT d.inr _ _ (rd_fv (HV.out.i.new HB)) (rd_fine (HV.out.i.new HB))).mono ?_; rw [k2]; rintro x u1 ⟨rfl, hb⟩
    replace RX := RX.new hb
    replace HB := bchain HB hb
    clear hb
    clear x0 x1 x2 x3 x4 x5 x6 x7 x8 x9 x10 x11 x12
    have x0 := RowIs.cell (j := 0) RX rfl
    have x1 := RowIs.cell (j := 1) RX rfl
    have x2 := RowIs.cell (j := 2) RX rfl
    have x3 := RowIs.cell (j := 3) RX rfl
    have x4 := RowIs.cell (j := 4) RX rfl
    have x5 := RowIs.cell (j := 5) RX rfl
    have x6 := RowIs.cell (j := 6) RX rfl
    have x7 := RowIs.cell (j := 7) RX rfl
    have x8 := RowIs.cell (j := 8) RX rfl
    have x9 := RowIs.cell (j := 9) RX rfl
    have x10 := RowIs.cell (j := 10) RX rfl
    have x11 := RowIs.cell (j := 11) RX rfl
    have x12 := RowIs.cell (j := 12) RX rfl
    go_wp2_with fail
    refine (specTOk d.outT d.outr _ _ (rd_fv (HV.out.o.new HB)) (rd_fine (HV.out.o.new HB))).mono ?_; rw [k3]; rintro x u2 ⟨rfl, hb⟩
    replace RX := RX.new hb
    replace HB := bchain HB hb
    clear hb
    clear x0 x1 x2 x3 x4 x5 x6 x7 x8 x9 x10 x11 x12
    have x0 := RowIs.cell (j := 0) RX rfl
    have x1 := RowIs.cell (j := 1) RX rfl
    have x2 := RowIs.cell (j := 2) RX rfl
    have x3 := RowIs.cell (j := 3) RX rfl
    have x4 := RowIs.cell (j := 4) RX rfl
    have x5 := RowIs.cell (j := 5) RX rfl
    have x6 := RowIs.cell (j := 6) RX rfl
    have x7 := RowIs.cell (j := 7) RX rfl
    have x8 := RowIs.cell (j := 8) RX rfl
    have x9 := RowIs.cell (j := 9) RX rfl
    have x10 := RowIs.cell (j := 10) RX rfl
    have x11 := RowIs.cell (j := 11) RX rfl
    have x12 := RowIs.cell (j := 12) RX rfl
    go_wp2_with fail
    refine (specWin d.get _).mono ?_; rw [k4]; rintro e v3 ⟨rfl, hsame⟩; obtain rfl := hsame.symm; clear hsame
    go_wp2_with fail
    go_ret
    exact ⟨by rw [okCn_no (fun h => by rw [k4] at h; simp at h)]; rfl, HB⟩
  cases k5 : winB d.give
  · go_enter Tryz.func22, Tryz.ntmps22
    go_wp2_with fail
    refine (specRegistryOk d.reg _ _ (HV.out.e.new HB)).mono ?_; rw [k1]; rintro x u0 ⟨rfl, hb⟩
    replace RX := RX.new hb
    replace HB := bchain HB hb
    clear hb
    have x0 := RowIs.cell (j := 0) RX rfl
    have x1 := RowIs.cell (j := 1) RX rfl
    have x2 := RowIs.cell (j := 2) RX rfl
    have x3 := RowIs.cell (j := 3) RX rfl
    have x4 := RowIs.cell (j := 4) RX rfl
    have x5 := RowIs.cell (j := 5) RX rfl
    have x6 := RowIs.cell (j := 6) RX rfl
    have x7 := RowIs.cell (j := 7) RX rfl
    have x8 := RowIs.cell (j := 8) RX rfl
    have x9 := RowIs.cell (j := 9) RX rfl
    have x10 := RowIs.cell (j := 10) RX rfl
    have x11 := RowIs.cell (j := 11) RX rfl
    have x12 := RowIs.cell (j := 12) RX rfl
    go_wp2_with fail
    refine (specTOk d.inT d.inr _ _ (rd_fv (HV.out.i.new HB)) (rd_fine (HV.out.i.new HB))).mono ?_; rw [k2]; rintro x u1 ⟨rfl, hb⟩
    replace RX := RX.new hb
    replace HB := bchain HB hb
    clear hb
    clear x0 x1 x2 x3 x4 x5 x6 x7 x8 x9 x10 x11 x12
    have x0 := RowIs.cell (j := 0) RX rfl
    have x1 := RowIs.cell (j := 1) RX rfl
    have x2 := RowIs.cell (j := 2) RX rfl
    have x3 := RowIs.cell (j := 3) RX rfl
    have x4 := RowIs.cell (j := 4) RX rfl
    have x5 := RowIs.cell (j := 5) RX rfl
    have x6 := RowIs.cell (j := 6) RX rfl
    have x7 := RowIs.cell (j := 7) RX rfl
    have x8 := RowIs.cell (j := 8) RX rfl
    have x9 := RowIs.cell (j := 9) RX rfl
    have x10 := RowIs.cell (j := 10) RX rfl
    have x11 := RowIs.cell (j := 11) RX rfl
    have x12 := RowIs.cell (j := 12) RX rfl
    go_wp2_with fail
    refine (specTOk d.outT d.outr _ _ (rd_fv (HV.out.o.new HB)) (rd_fine (HV.out.o.new HB))).mono ?_; rw [k3]; rintro x u2 ⟨rfl, hb⟩
    replace RX := RX.new hb
    replace HB := bchain HB hb
    clear hb
    clear x0 x1 x2 x3 x4 x5 x6 x7 x8 x9 x10 x11 x12
    have x0 := RowIs.cell (j := 0) RX rfl
    have x1 := RowIs.cell (j := 1) RX rfl
    have x2 := RowIs.cell (j := 2) RX rfl
    have x3 := RowIs.cell (j := 3) RX rfl
    have x4 := RowIs.cell (j := 4) RX rfl
    have x5 := RowIs.cell (j := 5) RX rfl
    have x6 := RowIs.cell (j := 6) RX rfl
    have x7 := RowIs.cell (j := 7) RX rfl
    have x8 := RowIs.cell (j := 8) RX rfl
    have x9 := RowIs.cell (j := 9) RX rfl
    have x10 := RowIs.cell (j := 10) RX rfl
    have x11 := RowIs.cell (j := 11) RX rfl
    have x12 := RowIs.cell (j := 12) RX rfl
    go_wp2_with fail
    refine (specWin d.get _).mono ?_; rw [k4]; rintro e v3 ⟨rfl, hsame⟩; obtain rfl := hsame.symm; clear hsame
    go_wp2_with fail
    refine (specWin d.give _).mono ?_; rw [k5]; rintro e v4 ⟨rfl, hsame⟩; obtain rfl := hsame.symm; clear hsame
    go_wp2_with fail
    go_ret
    exact ⟨by rw [okCn_no (fun h => by rw [k5] at h; simp at h)]; rfl, HB⟩
  cases k6 : inB d.first 0 16777215
  · go_enter Tryz.func22, Tryz.ntmps22
    go_wp2_with fail
    refine (specRegistryOk d.reg _ _ (HV.out.e.new HB)).mono ?_; rw [k1]; rintro x u0 ⟨rfl, hb⟩
    replace RX := RX.new hb
    replace HB := bchain HB hb
    clear hb
    have x0 := RowIs.cell (j := 0) RX rfl
    have x1 := RowIs.cell (j := 1) RX rfl
    have x2 := RowIs.cell (j := 2) RX rfl
    have x3 := RowIs.cell (j := 3) RX rfl
    have x4 := RowIs.cell (j := 4) RX rfl
    have x5 := RowIs.cell (j := 5) RX rfl
    have x6 := RowIs.cell (j := 6) RX rfl
    have x7 := RowIs.cell (j := 7) RX rfl
    have x8 := RowIs.cell (j := 8) RX rfl
    have x9 := RowIs.cell (j := 9) RX rfl
    have x10 := RowIs.cell (j := 10) RX rfl
    have x11 := RowIs.cell (j := 11) RX rfl
    have x12 := RowIs.cell (j := 12) RX rfl
    go_wp2_with fail
    refine (specTOk d.inT d.inr _ _ (rd_fv (HV.out.i.new HB)) (rd_fine (HV.out.i.new HB))).mono ?_; rw [k2]; rintro x u1 ⟨rfl, hb⟩
    replace RX := RX.new hb
    replace HB := bchain HB hb
    clear hb
    clear x0 x1 x2 x3 x4 x5 x6 x7 x8 x9 x10 x11 x12
    have x0 := RowIs.cell (j := 0) RX rfl
    have x1 := RowIs.cell (j := 1) RX rfl
    have x2 := RowIs.cell (j := 2) RX rfl
    have x3 := RowIs.cell (j := 3) RX rfl
    have x4 := RowIs.cell (j := 4) RX rfl
    have x5 := RowIs.cell (j := 5) RX rfl
    have x6 := RowIs.cell (j := 6) RX rfl
    have x7 := RowIs.cell (j := 7) RX rfl
    have x8 := RowIs.cell (j := 8) RX rfl
    have x9 := RowIs.cell (j := 9) RX rfl
    have x10 := RowIs.cell (j := 10) RX rfl
    have x11 := RowIs.cell (j := 11) RX rfl
    have x12 := RowIs.cell (j := 12) RX rfl
    go_wp2_with fail
    refine (specTOk d.outT d.outr _ _ (rd_fv (HV.out.o.new HB)) (rd_fine (HV.out.o.new HB))).mono ?_; rw [k3]; rintro x u2 ⟨rfl, hb⟩
    replace RX := RX.new hb
    replace HB := bchain HB hb
    clear hb
    clear x0 x1 x2 x3 x4 x5 x6 x7 x8 x9 x10 x11 x12
    have x0 := RowIs.cell (j := 0) RX rfl
    have x1 := RowIs.cell (j := 1) RX rfl
    have x2 := RowIs.cell (j := 2) RX rfl
    have x3 := RowIs.cell (j := 3) RX rfl
    have x4 := RowIs.cell (j := 4) RX rfl
    have x5 := RowIs.cell (j := 5) RX rfl
    have x6 := RowIs.cell (j := 6) RX rfl
    have x7 := RowIs.cell (j := 7) RX rfl
    have x8 := RowIs.cell (j := 8) RX rfl
    have x9 := RowIs.cell (j := 9) RX rfl
    have x10 := RowIs.cell (j := 10) RX rfl
    have x11 := RowIs.cell (j := 11) RX rfl
    have x12 := RowIs.cell (j := 12) RX rfl
    go_wp2_with fail
    refine (specWin d.get _).mono ?_; rw [k4]; rintro e v3 ⟨rfl, hsame⟩; obtain rfl := hsame.symm; clear hsame
    go_wp2_with fail
    refine (specWin d.give _).mono ?_; rw [k5]; rintro e v4 ⟨rfl, hsame⟩; obtain rfl := hsame.symm; clear hsame
    go_wp2_with fail
    refine (specIn d.first 0 16777215 _).mono ?_; rw [k6]; rintro e v5 ⟨rfl, hsame⟩; obtain rfl := hsame.symm; clear hsame
    go_wp2_with fail
    go_ret
    exact ⟨by rw [okCn_no (fun h => by rw [k6] at h; simp at h)]; rfl, HB⟩
  by_cases k7 : d.flows.length = d.reg.es.length
  rotate_left
  · have k7' : ((d.flows.length : Int) != d.reg.es.length) = true := by simpa using fun c : (d.flows.length : Int) = d.reg.es.length => k7 (by omega)
    have HK7 := hide k7
    clear k7
    go_enter Tryz.func22, Tryz.ntmps22
    go_wp2_with fail
    refine (specRegistryOk d.reg _ _ (HV.out.e.new HB)).mono ?_; rw [k1]; rintro x u0 ⟨rfl, hb⟩
    replace RX := RX.new hb
    replace HB := bchain HB hb
    clear hb
    have x0 := RowIs.cell (j := 0) RX rfl
    have x1 := RowIs.cell (j := 1) RX rfl
    have x2 := RowIs.cell (j := 2) RX rfl
    have x3 := RowIs.cell (j := 3) RX rfl
    have x4 := RowIs.cell (j := 4) RX rfl
    have x5 := RowIs.cell (j := 5) RX rfl
    have x6 := RowIs.cell (j := 6) RX rfl
    have x7 := RowIs.cell (j := 7) RX rfl
    have x8 := RowIs.cell (j := 8) RX rfl
    have x9 := RowIs.cell (j := 9) RX rfl
    have x10 := RowIs.cell (j := 10) RX rfl
    have x11 := RowIs.cell (j := 11) RX rfl
    have x12 := RowIs.cell (j := 12) RX rfl
    go_wp2_with fail
    refine (specTOk d.inT d.inr _ _ (rd_fv (HV.out.i.new HB)) (rd_fine (HV.out.i.new HB))).mono ?_; rw [k2]; rintro x u1 ⟨rfl, hb⟩
    replace RX := RX.new hb
    replace HB := bchain HB hb
    clear hb
    clear x0 x1 x2 x3 x4 x5 x6 x7 x8 x9 x10 x11 x12
    have x0 := RowIs.cell (j := 0) RX rfl
    have x1 := RowIs.cell (j := 1) RX rfl
    have x2 := RowIs.cell (j := 2) RX rfl
    have x3 := RowIs.cell (j := 3) RX rfl
    have x4 := RowIs.cell (j := 4) RX rfl
    have x5 := RowIs.cell (j := 5) RX rfl
    have x6 := RowIs.cell (j := 6) RX rfl
    have x7 := RowIs.cell (j := 7) RX rfl
    have x8 := RowIs.cell (j := 8) RX rfl
    have x9 := RowIs.cell (j := 9) RX rfl
    have x10 := RowIs.cell (j := 10) RX rfl
    have x11 := RowIs.cell (j := 11) RX rfl
    have x12 := RowIs.cell (j := 12) RX rfl
    go_wp2_with fail
    refine (specTOk d.outT d.outr _ _ (rd_fv (HV.out.o.new HB)) (rd_fine (HV.out.o.new HB))).mono ?_; rw [k3]; rintro x u2 ⟨rfl, hb⟩
    replace RX := RX.new hb
    replace HB := bchain HB hb
    clear hb
    clear x0 x1 x2 x3 x4 x5 x6 x7 x8 x9 x10 x11 x12
    have x0 := RowIs.cell (j := 0) RX rfl
    have x1 := RowIs.cell (j := 1) RX rfl
    have x2 := RowIs.cell (j := 2) RX rfl
    have x3 := RowIs.cell (j := 3) RX rfl
    have x4 := RowIs.cell (j := 4) RX rfl
    have x5 := RowIs.cell (j := 5) RX rfl
    have x6 := RowIs.cell (j := 6) RX rfl
    have x7 := RowIs.cell (j := 7) RX rfl
    have x8 := RowIs.cell (j := 8) RX rfl
    have x9 := RowIs.cell (j := 9) RX rfl
    have x10 := RowIs.cell (j := 10) RX rfl
    have x11 := RowIs.cell (j := 11) RX rfl
    have x12 := RowIs.cell (j := 12) RX rfl
    go_wp2_with fail
    refine (specWin d.get _).mono ?_; rw [k4]; rintro e v3 ⟨rfl, hsame⟩; obtain rfl := hsame.symm; clear hsame
    go_wp2_with fail
    refine (specWin d.give _).mono ?_; rw [k5]; rintro e v4 ⟨rfl, hsame⟩; obtain rfl := hsame.symm; clear hsame
    go_wp2_with fail
    refine (specIn d.first 0 16777215 _).mono ?_; rw [k6]; rintro e v5 ⟨rfl, hsame⟩; obtain rfl := hsame.symm; clear hsame
    go_wp2_with fail
    go_ret
    exact ⟨by rw [okCn_no (fun h => HK7.out (okFls_len h.2.2.2.2.2.2))]; rfl, HB⟩
  have k7' : ((d.flows.length : Int) != d.reg.es.length) = false := by simpa using (show (d.flows.length : Int) = d.reg.es.length by omega)
  have HK7 := hide k7
  have hle1 : d.flows.length ≤ d.reg.es.length := by omega
  clear k7
  have HYES : Hid (okFls d.flows d.reg.es = true → okCn d = true) := fun h => okCn_yes k1 k2 k3 k4 k5 k6 h
  have HNO : Hid (okFls d.flows d.reg.es = false → okCn d = false) := fun h => okCn_no (fun c => by rw [h] at c; simp at c)
  go_enter Tryz.func22, Tryz.ntmps22
  go_wp2_with fail
  refine (specRegistryOk d.reg _ _ (HV.out.e.new HB)).mono ?_; rw [k1]; rintro x u0 ⟨rfl, hb⟩
  replace RX := RX.new hb
  replace HB := bchain HB hb
  clear hb
  have x0 := RowIs.cell (j := 0) RX rfl
  have x1 := RowIs.cell (j := 1) RX rfl
  have x2 := RowIs.cell (j := 2) RX rfl
  have x3 := RowIs.cell (j := 3) RX rfl
  have x4 := RowIs.cell (j := 4) RX rfl
  have x5 := RowIs.cell (j := 5) RX rfl
  have x6 := RowIs.cell (j := 6) RX rfl
  have x7 := RowIs.cell (j := 7) RX rfl
  have x8 := RowIs.cell (j := 8) RX rfl
  have x9 := RowIs.cell (j := 9) RX rfl
  have x10 := RowIs.cell (j := 10) RX rfl
  have x11 := RowIs.cell (j := 11) RX rfl
  have x12 := RowIs.cell (j := 12) RX rfl
  go_wp2_with fail
  refine (specTOk d.inT d.inr _ _ (rd_fv (HV.out.i.new HB)) (rd_fine (HV.out.i.new HB))).mono ?_; rw [k2]; rintro x u1 ⟨rfl, hb⟩
  replace RX := RX.new hb
  replace HB := bchain HB hb
  clear hb
  clear x0 x1 x2 x3 x4 x5 x6 x7 x8 x9 x10 x11 x12
  have x0 := RowIs.cell (j := 0) RX rfl
  have x1 := RowIs.cell (j := 1) RX rfl
  have x2 := RowIs.cell (j := 2) RX rfl
  have x3 := RowIs.cell (j := 3) RX rfl
  have x4 := RowIs.cell (j := 4) RX rfl
  have x5 := RowIs.cell (j := 5) RX rfl
  have x6 := RowIs.cell (j := 6) RX rfl
  have x7 := RowIs.cell (j := 7) RX rfl
  have x8 := RowIs.cell (j := 8) RX rfl
  have x9 := RowIs.cell (j := 9) RX rfl
  have x10 := RowIs.cell (j := 10) RX rfl
  have x11 := RowIs.cell (j := 11) RX rfl
  have x12 := RowIs.cell (j := 12) RX rfl
  go_wp2_with fail
  refine (specTOk d.outT d.outr _ _ (rd_fv (HV.out.o.new HB)) (rd_fine (HV.out.o.new HB))).mono ?_; rw [k3]; rintro x u2 ⟨rfl, hb⟩
  replace RX := RX.new hb
  replace HB := bchain HB hb
  clear hb
  clear x0 x1 x2 x3 x4 x5 x6 x7 x8 x9 x10 x11 x12
  have x0 := RowIs.cell (j := 0) RX rfl
  have x1 := RowIs.cell (j := 1) RX rfl
  have x2 := RowIs.cell (j := 2) RX rfl
  have x3 := RowIs.cell (j := 3) RX rfl
  have x4 := RowIs.cell (j := 4) RX rfl
  have x5 := RowIs.cell (j := 5) RX rfl
  have x6 := RowIs.cell (j := 6) RX rfl
  have x7 := RowIs.cell (j := 7) RX rfl
  have x8 := RowIs.cell (j := 8) RX rfl
  have x9 := RowIs.cell (j := 9) RX rfl
  have x10 := RowIs.cell (j := 10) RX rfl
  have x11 := RowIs.cell (j := 11) RX rfl
  have x12 := RowIs.cell (j := 12) RX rfl
  go_wp2_with fail
  refine (specWin d.get _).mono ?_; rw [k4]; rintro e v3 ⟨rfl, hsame⟩; obtain rfl := hsame.symm; clear hsame
  go_wp2_with fail
  refine (specWin d.give _).mono ?_; rw [k5]; rintro e v4 ⟨rfl, hsame⟩; obtain rfl := hsame.symm; clear hsame
  go_wp2_with fail
  refine (specIn d.first 0 16777215 _).mono ?_; rw [k6]; rintro e v5 ⟨rfl, hsame⟩; obtain rfl := hsame.symm; clear hsame
  go_wp2_with fail
  have HRX := hide RX; have HBW := hide HB
  clear x0 x1 x2 x3 x4 x5 x6 x7 x8 x9 x10 x11 x12 RX HB k1 k2 k3 k4 k5 k6
  go_loopw [3] (fun i wr => ∃ k : Nat, i = .int .i64 k ∧ k ≤ d.flows.length ∧ Hid (∀ j (h : j < d.flows.length) (h' : j < d.reg.es.length), j < k → okFl d.flows[j] d.reg.es[j] = true) ∧ Hid (RowIs wr w.heap.size 43 [.int .i64 d.reg.lim, .int .i64 d.reg.top, .slice ae d.reg.es.length pe, .int .i64 d.inr, .slice ai d.inT.length pi, .int .i64 d.outr, .slice ao d.outT.length po, .int .i64 d.get, .int .i64 d.give, .int .i64 d.first, .slice af d.flows.length pf, .bool d.away, .bool d.dead]) ∧ Hid (Below w.heap.size w wr)) (fun i _ => d.flows.length - (intOf i).toNat)
  case atStart => exact ⟨0, rfl, Nat.zero_le _, fun j _ _ h => absurd h (Nat.not_lt_zero _), HRX, HBW⟩
  case round =>
    clear HRX HBW
    obtain ⟨i, rfl, hi, HI, HRX, HBW⟩ := hrel
    have RX := HRX.out
    have x10 := RowIs.cell (j := 10) RX rfl
    by_cases hlt : i < d.flows.length
    rotate_left
    · have HT : Hid (okCn d = true) := HYES.out (okFls_of HK7.out (fun j h h' => HI.out j h h' (by omega)))
      clear RX
      go_wp2_with fail
      go_ret
      exact ⟨by rw [HT.out]; rfl, HBW.out⟩
    have hlte : i < d.reg.es.length := by omega
    obtain ⟨b, o, cs, rfl, hbw, hrd, hc⟩ := (HV.out.f.new HBW.out).at i hlt
    obtain ⟨be, oe, ce, rfl, hbe, hre, hce⟩ := (HV.out.e.new HBW.out).at i hlte
    have HF := hide (rfl : d.flows[i] = d.flows[i])
    obtain ⟨f, hf⟩ : ∃ f, d.flows[i] = f := ⟨_, rfl⟩
    obtain ⟨e, he⟩ : ∃ e, d.reg.es[i] = e := ⟨_, rfl⟩
    have HNOi : Hid (okFl f e = false → okCn d = false) := fun h => HNO.out (okFls_no hlt hlte (by rw [hf, he]; exact h))
    have HYi : Hid (okFl f e = true → ∀ j (h : j < d.flows.length) (h' : j < d.reg.es.length), j < i + 1 → okFl d.flows[j] d.reg.es[j] = true) := fun hq j h h' hj => by
      by_cases hji : j = i
      · subst hji; rw [hf, he]; exact hq
      · exact HI.out j h h' (by omega)
    rw [hf] at hrd
    rw [he] at hre
    clear hf he HF
    obtain ⟨vf, rfl, hf0, hf1, hfd⟩ := hrd
    obtain ⟨aff, pff, rfl, _⟩ := hfd.form
    have HFD := hide hfd
    clear hfd
    obtain rfl := hre
    have ce0 : wr.cell? ⟨be, oe + i * 2, none⟩ = some (.int .i64 e.id) := hce 0 _ rfl
    have c0 : wr.cell? ⟨b, o + i * 15, none⟩ = some (.int .i64 f.id) := hc 0 _ rfl
    have c1 : wr.cell? ⟨b, o + i * 15 + 1, none⟩ = some (.int .i64 f.get) := hc 1 _ rfl
    have c2 : wr.cell? ⟨b, o + i * 15 + 2, none⟩ = some (.int .i64 f.give) := hc 2 _ rfl
    have c3 : wr.cell? ⟨b, o + i * 15 + 3, none⟩ = some (.slice aff f.fds.length pff) := hc 3 _ rfl
    have c4 : wr.cell? ⟨b, o + i * 15 + 4, none⟩ = some (.int .i64 f.tun.up.r) := hc 4 _ rfl
    have c5 : wr.cell? ⟨b, o + i * 15 + 5, none⟩ = some (.string f.tun.up.b) := hc 5 _ rfl
    have c6 : wr.cell? ⟨b, o + i * 15 + 6, none⟩ = some (.bool f.tun.up.e) := hc 6 _ rfl
    have c7 : wr.cell? ⟨b, o + i * 15 + 7, none⟩ = some (.bool f.tun.up.k) := hc 7 _ rfl
    have c8 : wr.cell? ⟨b, o + i * 15 + 8, none⟩ = some (.int .i64 f.tun.dn.r) := hc 8 _ rfl
    have c9 : wr.cell? ⟨b, o + i * 15 + 9, none⟩ = some (.string f.tun.dn.b) := hc 9 _ rfl
    have c10 : wr.cell? ⟨b, o + i * 15 + 10, none⟩ = some (.bool f.tun.dn.e) := hc 10 _ rfl
    have c11 : wr.cell? ⟨b, o + i * 15 + 11, none⟩ = some (.bool f.tun.dn.k) := hc 11 _ rfl
    have c12 : wr.cell? ⟨b, o + i * 15 + 12, none⟩ = some (.int .i64 f.tun.went) := hc 12 _ rfl
    have c13 : wr.cell? ⟨b, o + i * 15 + 13, none⟩ = some (.int .i64 f.tun.came) := hc 13 _ rfl
    have c14 : wr.cell? ⟨b, o + i * 15 + 14, none⟩ = some (.bool f.ended) := hc 14 _ rfl
    clear hc hce
    go_upto_region 7 with (refine wpList_store_row (by rfl) 89 _ _ (by rfl) wr.heap.size [.int .i64 f.id, .int .i64 f.get, .int .i64 f.give, .slice aff f.fds.length pff, .int .i64 f.tun.up.r, .string f.tun.up.b, .bool f.tun.up.e, .bool f.tun.up.k, .int .i64 f.tun.dn.r, .string f.tun.dn.b, .bool f.tun.dn.e, .bool f.tun.dn.k, .int .i64 f.tun.went, .int .i64 f.tun.came, .bool f.ended] (by rfl) (by rfl) 89 [.int .i64 0, .int .i64 0, .int .i64 0, .slice none 0 0, .int .i64 0, .string ⟨#[]⟩, .bool false, .bool false, .int .i64 0, .string ⟨#[]⟩, .bool false, .bool false, .int .i64 0, .int .i64 0, .bool false] (rowIs_new wr 89 [.int .i64 0, .int .i64 0, .int .i64 0, .slice none 0 0, .int .i64 0, .string ⟨#[]⟩, .bool false, .bool false, .int .i64 0, .string ⟨#[]⟩, .bool false, .bool false, .int .i64 0, .int .i64 0, .bool false]) (by kernel_rfl) rfl (by intro u hu; simp at hu; rcases hu with rfl | rfl | rfl | rfl | rfl | rfl | rfl | rfl | rfl | rfl | rfl | rfl | rfl | rfl | rfl <;> rfl) ?_)
    have hbV : Below wr.heap.size wr ((wr.alloc (.cells #[.int .i64 0, .int .i64 0, .int .i64 0, .slice none 0 0, .int .i64 0, .string ⟨#[]⟩, .bool false, .bool false, .int .i64 0, .string ⟨#[]⟩, .bool false, .bool false, .int .i64 0, .int .i64 0, .bool false] 89)).setRow wr.heap.size #[.int .i64 f.id, .int .i64 f.get, .int .i64 f.give, .slice aff f.fds.length pff, .int .i64 f.tun.up.r, .string f.tun.up.b, .bool f.tun.up.e, .bool f.tun.up.k, .int .i64 f.tun.dn.r, .string f.tun.dn.b, .bool f.tun.dn.e, .bool f.tun.dn.k, .int .i64 f.tun.went, .int .i64 f.tun.came, .bool f.ended]) := below_setRow ((Below.refl _ _).alloc (Nat.le_refl _) _) (Nat.le_refl _) #[.int .i64 f.id, .int .i64 f.get, .int .i64 f.give, .slice aff f.fds.length pff, .int .i64 f.tun.up.r, .string f.tun.up.b, .bool f.tun.up.e, .bool f.tun.up.k, .int .i64 f.tun.dn.r, .string f.tun.dn.b, .bool f.tun.dn.e, .bool f.tun.dn.k, .int .i64 f.tun.went, .int .i64 f.tun.came, .bool f.ended]
    have RY : RowIs ((wr.alloc (.cells #[.int .i64 0, .int .i64 0, .int .i64 0, .slice none 0 0, .int .i64 0, .string ⟨#[]⟩, .bool false, .bool false, .int .i64 0, .string ⟨#[]⟩, .bool false, .bool false, .int .i64 0, .int .i64 0, .bool false] 89)).setRow wr.heap.size #[.int .i64 f.id, .int .i64 f.get, .int .i64 f.give, .slice aff f.fds.length pff, .int .i64 f.tun.up.r, .string f.tun.up.b, .bool f.tun.up.e, .bool f.tun.up.k, .int .i64 f.tun.dn.r, .string f.tun.dn.b, .bool f.tun.dn.e, .bool f.tun.dn.k, .int .i64 f.tun.went, .int .i64 f.tun.came, .bool f.ended]) wr.heap.size 89 [.int .i64 f.id, .int .i64 f.get, .int .i64 f.give, .slice aff f.fds.length pff, .int .i64 f.tun.up.r, .string f.tun.up.b, .bool f.tun.up.e, .bool f.tun.up.k, .int .i64 f.tun.dn.r, .string f.tun.dn.b, .bool f.tun.dn.e, .bool f.tun.dn.k, .int .i64 f.tun.went, .int .i64 f.tun.came, .bool f.ended] := rowIs_setRow (cs' := [.int .i64 f.id, .int .i64 f.get, .int .i64 f.give, .slice aff f.fds.length pff, .int .i64 f.tun.up.r, .string f.tun.up.b, .bool f.tun.up.e, .bool f.tun.up.k, .int .i64 f.tun.dn.r, .string f.tun.dn.b, .bool f.tun.dn.e, .bool f.tun.dn.k, .int .i64 f.tun.went, .int .i64 f.tun.came, .bool f.ended]) (rowIs_new wr 89 [.int .i64 0, .int .i64 0, .int .i64 0, .slice none 0 0, .int .i64 0, .string ⟨#[]⟩, .bool false, .bool false, .int .i64 0, .string ⟨#[]⟩, .bool false, .bool false, .int .i64 0, .int .i64 0, .bool false])
    have RXV := RX.new hbV
    have ceV := (hbV.cell (p := ⟨be, oe + i * 2, none⟩) hbe).trans ce0
    have hbeV : be < ((wr.alloc (.cells #[.int .i64 0, .int .i64 0, .int .i64 0, .slice none 0 0, .int .i64 0, .string ⟨#[]⟩, .bool false, .bool false, .int .i64 0, .string ⟨#[]⟩, .bool false, .bool false, .int .i64 0, .int .i64 0, .bool false] 89)).setRow wr.heap.size #[.int .i64 f.id, .int .i64 f.get, .int .i64 f.give, .slice aff f.fds.length pff, .int .i64 f.tun.up.r, .string f.tun.up.b, .bool f.tun.up.e, .bool f.tun.up.k, .int .i64 f.tun.dn.r, .string f.tun.dn.b, .bool f.tun.dn.e, .bool f.tun.dn.k, .int .i64 f.tun.went, .int .i64 f.tun.came, .bool f.ended]).heap.size := Nat.lt_of_lt_of_le hbe hbV.size
    replace HFD := hide (HFD.out.new hbV)
    replace HBW := hide (bchain HBW.out hbV)
    generalize (wr.alloc (.cells #[.int .i64 0, .int .i64 0, .int .i64 0, .slice none 0 0, .int .i64 0, .string ⟨#[]⟩, .bool false, .bool false, .int .i64 0, .string ⟨#[]⟩, .bool false, .bool false, .int .i64 0, .int .i64 0, .bool false] 89)).setRow wr.heap.size #[.int .i64 f.id, .int .i64 f.get, .int .i64 f.give, .slice aff f.fds.length pff, .int .i64 f.tun.up.r, .string f.tun.up.b, .bool f.tun.up.e, .bool f.tun.up.k, .int .i64 f.tun.dn.r, .string f.tun.dn.b, .bool f.tun.dn.e, .bool f.tun.dn.k, .int .i64 f.tun.went, .int .i64 f.tun.came, .bool f.ended] = V at *
    generalize wr.heap.size = gy at *
    clear hbV RX ce0 x10 c0 c1 c2 c3 c4 c5 c6 c7 c8 c9 c10 c11 c12 c13 c14 HRX
    have x2 := RowIs.cell (j := 2) RXV rfl
    have hlx := RXV.lt
    have hly := RY.lt
    have q2 : ∀ y : Later V, y.w.cell? ⟨w.heap.size, 2, none⟩ = some (.slice (some ⟨be, oe, none⟩) d.reg.es.length pe) := fun y => (y.b.cell (p := ⟨w.heap.size, 2, none⟩) hlx).trans x2
    have qe : ∀ y : Later V, y.w.cell? ⟨be, oe + i * 2, none⟩ = some (.int .i64 e.id) := fun y => (y.b.cell (p := ⟨be, oe + i * 2, none⟩) hbeV).trans ceV
    have y0 := RowIs.cell (j := 0) RY rfl
    have r0 : ∀ y : Later V, y.w.cell? ⟨gy, 0, none⟩ = some (.int .i64 f.id) := fun y => (y.b.cell (p := ⟨gy, 0, none⟩) hly).trans y0
    have y1 := RowIs.cell (j := 1) RY rfl
    have r1 : ∀ y : Later V, y.w.cell? ⟨gy, 1, none⟩ = some (.int .i64 f.get) := fun y => (y.b.cell (p := ⟨gy, 1, none⟩) hly).trans y1
    have y2 := RowIs.cell (j := 2) RY rfl
    have r2 : ∀ y : Later V, y.w.cell? ⟨gy, 2, none⟩ = some (.int .i64 f.give) := fun y => (y.b.cell (p := ⟨gy, 2, none⟩) hly).trans y2
    have y3 := RowIs.cell (j := 3) RY rfl
    have r3 : ∀ y : Later V, y.w.cell? ⟨gy, 3, none⟩ = some (.slice aff f.fds.length pff) := fun y => (y.b.cell (p := ⟨gy, 3, none⟩) hly).trans y3
    have y4 := RowIs.cell (j := 4) RY rfl
    have r4 : ∀ y : Later V, y.w.cell? ⟨gy, 4, none⟩ = some (.int .i64 f.tun.up.r) := fun y => (y.b.cell (p := ⟨gy, 4, none⟩) hly).trans y4
    have y5 := RowIs.cell (j := 5) RY rfl
    have r5 : ∀ y : Later V, y.w.cell? ⟨gy, 5, none⟩ = some (.string f.tun.up.b) := fun y => (y.b.cell (p := ⟨gy, 5, none⟩) hly).trans y5
    have y6 := RowIs.cell (j := 6) RY rfl
    have r6 : ∀ y : Later V, y.w.cell? ⟨gy, 6, none⟩ = some (.bool f.tun.up.e) := fun y => (y.b.cell (p := ⟨gy, 6, none⟩) hly).trans y6
    have y7 := RowIs.cell (j := 7) RY rfl
    have r7 : ∀ y : Later V, y.w.cell? ⟨gy, 7, none⟩ = some (.bool f.tun.up.k) := fun y => (y.b.cell (p := ⟨gy, 7, none⟩) hly).trans y7
    have y8 := RowIs.cell (j := 8) RY rfl
    have r8 : ∀ y : Later V, y.w.cell? ⟨gy, 8, none⟩ = some (.int .i64 f.tun.dn.r) := fun y => (y.b.cell (p := ⟨gy, 8, none⟩) hly).trans y8
    have y9 := RowIs.cell (j := 9) RY rfl
    have r9 : ∀ y : Later V, y.w.cell? ⟨gy, 9, none⟩ = some (.string f.tun.dn.b) := fun y => (y.b.cell (p := ⟨gy, 9, none⟩) hly).trans y9
    have y10 := RowIs.cell (j := 10) RY rfl
    have r10 : ∀ y : Later V, y.w.cell? ⟨gy, 10, none⟩ = some (.bool f.tun.dn.e) := fun y => (y.b.cell (p := ⟨gy, 10, none⟩) hly).trans y10
    have y11 := RowIs.cell (j := 11) RY rfl
    have r11 : ∀ y : Later V, y.w.cell? ⟨gy, 11, none⟩ = some (.bool f.tun.dn.k) := fun y => (y.b.cell (p := ⟨gy, 11, none⟩) hly).trans y11
    have y12 := RowIs.cell (j := 12) RY rfl
    have r12 : ∀ y : Later V, y.w.cell? ⟨gy, 12, none⟩ = some (.int .i64 f.tun.went) := fun y => (y.b.cell (p := ⟨gy, 12, none⟩) hly).trans y12
    have y13 := RowIs.cell (j := 13) RY rfl
    have r13 : ∀ y : Later V, y.w.cell? ⟨gy, 13, none⟩ = some (.int .i64 f.tun.came) := fun y => (y.b.cell (p := ⟨gy, 13, none⟩) hly).trans y13
    have y14 := RowIs.cell (j := 14) RY rfl
    have r14 : ∀ y : Later V, y.w.cell? ⟨gy, 14, none⟩ = some (.bool f.ended) := fun y => (y.b.cell (p := ⟨gy, 14, none⟩) hly).trans y14
    clear x2 ceV y0 y1 y2 y3 y4 y5 y6 y7 y8 y9 y10 y11 y12 y13 y14 RY
    have HRX := hide RXV
    clear RXV
    have hlteI : (i : Int) < d.reg.es.length := by omega
    try simp only [Act.put, List.getElem_toArray, List.getElem_cons_succ, List.getElem_cons_zero, List.setIfInBounds_toArray, List.set_cons_zero, List.set_cons_succ]
    by_cases c0 : f.id = e.id
    rotate_left
    · have c0' : (f.id != e.id) = true := by simpa using c0
      have HN := hide (HNOi.out (okFl_no (fun h => c0 h.1)))
      clear c0
      have hne : Nonempty (Later V) := ⟨⟨V, Below.refl _ _⟩⟩; refine region_later (by kernel_rfl) (by kernel_rfl) ?_
      repeat (go_big_quiet_step (fail))
      refine wpQuiet_nil ?_; intro _ hw'; obtain ⟨y, hw''⟩ := hw'; subst hw''; have hby := y.b
      go_wp2_with fail
      go_ret
      exact ⟨by rw [HN.out]; rfl, bchain HBW.out hby⟩
    have c0' : (f.id != e.id) = false := by simpa using c0
    have HC0 := hide c0
    clear c0
    cases m0 : winB f.get
    · have HN := hide (HNOi.out (okFl_no (fun h => by rw [m0] at h; simp at h)))
      have hne : Nonempty (Later V) := ⟨⟨V, Below.refl _ _⟩⟩; refine region_later (by kernel_rfl) (by kernel_rfl) ?_
      repeat (go_big_quiet_step (fail))
      go_big_quiet_want; go_big_quiet_op
      refine ⟨.bool false, fun y => later_same (x := y) (by have := specWin f.get y.w; rw [m0] at this; exact this), ?_⟩
      go_big_quiet_on
      repeat (go_big_quiet_step (fail))
      refine wpQuiet_nil ?_; intro _ hw'; obtain ⟨y, hw''⟩ := hw'; subst hw''; have hby := y.b
      go_wp2_with fail
      go_ret
      exact ⟨by rw [HN.out]; rfl, bchain HBW.out hby⟩
    cases m1 : winB f.give
    · have HN := hide (HNOi.out (okFl_no (fun h => by rw [m1] at h; simp at h)))
      have hne : Nonempty (Later V) := ⟨⟨V, Below.refl _ _⟩⟩; refine region_later (by kernel_rfl) (by kernel_rfl) ?_
      repeat (go_big_quiet_step (fail))
      go_big_quiet_want; go_big_quiet_op
      refine ⟨.bool true, fun y => later_same (x := y) (by have := specWin f.get y.w; rw [m0] at this; exact this), ?_⟩
      go_big_quiet_on
      repeat (go_big_quiet_step (fail))
      go_big_quiet_want; go_big_quiet_op
      refine ⟨.bool false, fun y => later_same (x := y) (by have := specWin f.give y.w; rw [m1] at this; exact this), ?_⟩
      go_big_quiet_on
      repeat (go_big_quiet_step (fail))
      refine wpQuiet_nil ?_; intro _ hw'; obtain ⟨y, hw''⟩ := hw'; subst hw''; have hby := y.b
      go_wp2_with fail
      go_ret
      exact ⟨by rw [HN.out]; rfl, bchain HBW.out hby⟩
    cases m2 : okFs f.fds
    · have HN := hide (HNOi.out (okFl_no (fun h => by rw [m2] at h; simp at h)))
      have hne : Nonempty (Later V) := ⟨⟨V, Below.refl _ _⟩⟩; refine region_later (by kernel_rfl) (by kernel_rfl) ?_
      repeat (go_big_quiet_step (fail))
      go_big_quiet_want; go_big_quiet_op
      refine ⟨.bool true, fun y => later_same (x := y) (by have := specWin f.get y.w; rw [m0] at this; exact this), ?_⟩
      go_big_quiet_on
      repeat (go_big_quiet_step (fail))
      go_big_quiet_want; go_big_quiet_op
      refine ⟨.bool true, fun y => later_same (x := y) (by have := specWin f.give y.w; rw [m1] at this; exact this), ?_⟩
      go_big_quiet_on
      repeat (go_big_quiet_step (fail))
      go_big_quiet_want; go_big_quiet_op
      refine ⟨.bool false, fun y => later_calls (x := y) (by have := specFields f.fds _ y.w (rd_fv (HFD.out.new y.b)) (rd_fine (HFD.out.new y.b)); rw [m2] at this; exact this), ?_⟩
      go_big_quiet_on
      repeat (go_big_quiet_step (fail))
      refine wpQuiet_nil ?_; intro _ hw'; obtain ⟨y, hw''⟩ := hw'; subst hw''; have hby := y.b
      go_wp2_with fail
      go_ret
      exact ⟨by rw [HN.out]; rfl, bchain HBW.out hby⟩
    cases m3 : okTu f.tun
    · have HN := hide (HNOi.out (okFl_no (fun h => by rw [m3] at h; simp at h)))
      have hne : Nonempty (Later V) := ⟨⟨V, Below.refl _ _⟩⟩; refine region_later (by kernel_rfl) (by kernel_rfl) ?_
      repeat (go_big_quiet_step (fail))
      go_big_quiet_want; go_big_quiet_op
      refine ⟨.bool true, fun y => later_same (x := y) (by have := specWin f.get y.w; rw [m0] at this; exact this), ?_⟩
      go_big_quiet_on
      repeat (go_big_quiet_step (fail))
      go_big_quiet_want; go_big_quiet_op
      refine ⟨.bool true, fun y => later_same (x := y) (by have := specWin f.give y.w; rw [m1] at this; exact this), ?_⟩
      go_big_quiet_on
      repeat (go_big_quiet_step (fail))
      go_big_quiet_want; go_big_quiet_op
      refine ⟨.bool true, fun y => later_calls (x := y) (by have := specFields f.fds _ y.w (rd_fv (HFD.out.new y.b)) (rd_fine (HFD.out.new y.b)); rw [m2] at this; exact this), ?_⟩
      go_big_quiet_on
      repeat (go_big_quiet_step (fail))
      go_big_quiet_want; go_big_quiet_op
      refine ⟨.bool false, fun y => later_calls (x := y) (by have := specTunnelOk f.tun y.w (by unfold maxLen; omega) (by unfold maxLen; omega); rw [m3] at this; exact this), ?_⟩
      go_big_quiet_on
      repeat (go_big_quiet_step (fail))
      refine wpQuiet_nil ?_; intro _ hw'; obtain ⟨y, hw''⟩ := hw'; subst hw''; have hby := y.b
      go_wp2_with fail
      go_ret
      exact ⟨by rw [HN.out]; rfl, bchain HBW.out hby⟩
    have HY := hide (HYi.out (okFl_yes HC0.out m0 m1 m2 m3))
    have hne : Nonempty (Later V) := ⟨⟨V, Below.refl _ _⟩⟩; refine region_later (by kernel_rfl) (by kernel_rfl) ?_
    repeat (go_big_quiet_step (fail))
    go_big_quiet_want; go_big_quiet_op
    refine ⟨.bool true, fun y => later_same (x := y) (by have := specWin f.get y.w; rw [m0] at this; exact this), ?_⟩
    go_big_quiet_on
    repeat (go_big_quiet_step (fail))
    go_big_quiet_want; go_big_quiet_op
    refine ⟨.bool true, fun y => later_same (x := y) (by have := specWin f.give y.w; rw [m1] at this; exact this), ?_⟩
    go_big_quiet_on
    repeat (go_big_quiet_step (fail))
    go_big_quiet_want; go_big_quiet_op
    refine ⟨.bool true, fun y => later_calls (x := y) (by have := specFields f.fds _ y.w (rd_fv (HFD.out.new y.b)) (rd_fine (HFD.out.new y.b)); rw [m2] at this; exact this), ?_⟩
    go_big_quiet_on
    repeat (go_big_quiet_step (fail))
    go_big_quiet_want; go_big_quiet_op
    refine ⟨.bool true, fun y => later_calls (x := y) (by have := specTunnelOk f.tun y.w (by unfold maxLen; omega) (by unfold maxLen; omega); rw [m3] at this; exact this), ?_⟩
    go_big_quiet_on
    repeat (go_big_quiet_step (fail))
    refine wpQuiet_nil ?_; intro _ hw'; obtain ⟨y, hw''⟩ := hw'; subst hw''; have hby := y.b
    replace HRX := hide (HRX.out.new hby)
    replace HBW := hide (bchain HBW.out hby)
    generalize y.w = V2 at *
    clear hby hne q2 qe r0 r1 r2 r3 r4 r5 r6 r7 r8 r9 r10 r11 r12 r13 r14
    have x10 := RowIs.cell (j := 10) HRX.out rfl
    go_wp2_with fail
    go_roundw
    case rel => exact ⟨i + 1, by go_num, by omega, HY, HRX, HBW⟩
    case measure => simp [intOf]; omega
end Go.Proofs.YtllaeakeaabiaaaGreat
/- Connections in plain words: what one stream's turn of flushing does to a connection. -/
namespace Go.Proofs.YtllaeakeaabiaaaGreat
open Go.RowKit
set_option maxRecDepth 100000
set_option linter.unusedSimpArgs false
set_option linter.unusedVariables false
theorem endL_cat (id : Int) (l : List Fr) : catB (endL id l) = catB l := by
  unfold endL
  cases h : l.getLast? with
  | none =>
    have : l = [] := List.getLast?_eq_none_iff.1 h
    subst this
    exact ba_nil_append _
  | some x =>
    obtain ⟨a, rfl⟩ := List.getLast?_eq_some_iff.1 h
    dsimp only
    rw [List.dropLast_concat, catB_app, catB_app]
    rfl
theorem endL_mem {id : Int} {l : List Fr} {P : Int → Int → Int → ByteArray → Prop} (h : ∀ x ∈ l, P x.k x.fl x.st x.b ∧ P x.k 1 x.st x.b) (h0 : P 1 1 id ⟨#[]⟩) : ∀ x ∈ endL id l, P x.k x.fl x.st x.b := by
  unfold endL
  cases hl : l.getLast? with
  | none => intro x hx; simp at hx; rw [hx]; exact h0
  | some y =>
    obtain ⟨a, rfl⟩ := List.getLast?_eq_some_iff.1 hl
    dsimp only
    rw [List.dropLast_concat]
    intro x hx
    rcases List.mem_append.1 hx with hx | hx
    · exact (h x (by simp [hx])).1
    · simp at hx
      rw [hx]
      exact (h y (by simp)).2
/-- A flow that was flushed is right. -/
theorem flR_ok {g g' : Int} {f f' : FlD} {L : List Fr} {e : EntryD} (hr : FlR g f g' f' L) (h : okFl f e = true) : okFl f' e = true := by
  obtain ⟨_, h2, ⟨_, h4, h5⟩, h6, h7, ⟨h8, h9, h10, _⟩, ⟨h12, h13⟩, h14, _, h16⟩ := hr
  rw [okFl_iff] at h ⊢
  obtain ⟨a1, a2, a3, a4, a5⟩ := h
  obtain ⟨t1, t2, t3, t4⟩ := okTu_true a5
  have p := okPp_true t2
  have hs : (catB L).size + f'.tun.dn.b.size = f.tun.dn.b.size := by rw [← ByteArray.size_append, h2]
  have hw := inB_true a3
  have hg : winB f'.give = true := by
    by_cases hL : L = []
    · subst hL
      have : ((catB []).size : Int) = 0 := rfl
      rw [h4, this, Int.sub_zero]; exact a3
    · have := (h7 hL).2
      exact win_of (by omega) (by omega)
  refine ⟨by rw [h8]; exact a1, by rw [h9]; exact a2, hg, by rw [h10]; exact a4, ?_⟩
  refine okTu_of (by rw [h12]; exact t1) (okPp_of (by rw [h14]; exact p.1) (by rw [h14]; exact p.2.1) (by rw [h14]; omega) ?_) (by rw [h13]; exact t3) ⟨by omega, h6⟩
  intro hk
  rw [h16] at hk
  have := p.2.2.2 hk
  omega
theorem ended_okF {f : FlD} {e : EntryD} (h : okFl f e = true) : okFl { f with ended := true } e = true := by
  rw [okFl_iff] at h ⊢; exact h
theorem give_ok {c : CnD} {k : Nat} {f' : FlD} {g' : Int} (h : okCn c = true) (hg : winB g' = true) (hf : ∀ hk : k < c.flows.length, ∀ e, okFl c.flows[k] e = true → okFl f' e = true) : okCn { c with give := g', flows := c.flows.set k f' } = true := by
  have h' := okCn_iff.1 h
  exact okCn_iff.2 ⟨h'.1, h'.2.1, h'.2.2.1, h'.2.2.2.1, hg, h'.2.2.2.2.2.1, okFls_set h'.2.2.2.2.2.2 hf⟩
/-- One stream's turn. -/
def FlA (c : CnD) (k : Nat) (f : FlD) (d : CnD) (L : List Fr) : Prop :=
  ∃ f', (∀ x ∈ L, x.k = 1 ∧ (x.fl = 0 ∨ x.fl = 1) ∧ x.st = f.id ∧ x.b.size ≤ 1000) ∧ catB L ++ f'.tun.dn.b = f.tun.dn.b ∧ d.give = c.give - (catB L).size ∧ f'.give = f.give - (catB L).size ∧
    (0 < (catB L).size → 0 ≤ d.give ∧ 0 ≤ f'.give) ∧ f'.id = f.id ∧ d.flows = c.flows.set k f' ∧ d.dead = c.dead ∧ d.get = c.get ∧ d.first = c.first ∧ flN d.give f' = 0 ∧ endB f' = false ∧ f'.tun.came ≤ 1000000 ∧
    (d.reg = c.reg ∨ d.reg = (happenRaw c.reg f.id 3).1) ∧ okCn d = true
theorem flush_at {c : CnD} {k : Nat} (h : okCn c = true) (hk : k < c.flows.length) (e : EntryD) (hm : msV e.state = true) (he : okFl c.flows[k] e = true) : FlA c k c.flows[k] (flushAt c k c.flows[k] e).1 (flushAt c k c.flows[k] e).2 := by
  have h' := okCn_iff.1 h
  have hcm := (okTu_true (okFl_iff.1 he).2.2.2.2).2.2.2.2
  obtain ⟨g', f', L0, hq, hr, hz⟩ := flushF_res c.flows[k].tun.dn.b.size c.give c.flows[k] [] (Nat.le_refl _) hcm
  rw [List.nil_append] at hq
  have hr0 := hr
  obtain ⟨r1, r2, ⟨r3, r4, r5⟩, r6, r7, ⟨r8, r9, r10, r11⟩, ⟨r12, r13⟩, r14, r15, r16⟩ := hr
  have hw := inB_true h'.2.2.2.2.1
  have hsz : (0 < (catB L0).size → L0 ≠ []) := fun hp e => by rw [e] at hp; exact absurd hp (by decide)
  have hg : winB g' = true := by
    by_cases hL : L0 = []
    · subst hL
      have : ((catB []).size : Int) = 0 := rfl
      rw [r3, this, Int.sub_zero]; exact h'.2.2.2.2.1
    · have := (r7 hL).1
      exact win_of (by omega) (by omega)
  have hfl : flushAt c k c.flows[k] e = if endB f' then ({ hapD { c with give := g', flows := c.flows.set k f' } c.flows[k].id 3 with flows := c.flows.set k { f' with ended := true } }, endL c.flows[k].id L0) else ({ c with give := g', flows := c.flows.set k f' }, L0) := by
    unfold flushAt
    rw [if_neg (by rw [hm]; simp), hq]
  rw [hfl]
  by_cases hE : endB f' = true
  · rw [if_pos hE]
    have hb : f'.tun.dn.b.size = 0 := by
      unfold endB at hE
      simp only [Bool.and_eq_true, decide_eq_true_eq] at hE
      exact hE.2
    refine ⟨{ f' with ended := true }, ?_, ?_, ?_, ?_, ?_, r8, rfl, rfl, rfl, rfl, ?_, ?_, r6, Or.inr rfl, ?_⟩
    · refine endL_mem (P := fun a b st s => a = 1 ∧ (b = 0 ∨ b = 1) ∧ st = c.flows[k].id ∧ s.size ≤ 1000) (fun x hx => ?_) ⟨rfl, Or.inr rfl, rfl, by decide⟩
      obtain ⟨x1, x2, x3, x4, x5⟩ := r1 x hx
      exact ⟨⟨x1, Or.inl x2, x3, x5⟩, x1, Or.inr rfl, x3, x5⟩
    · rw [endL_cat]; exact r2
    · show g' = _; rw [endL_cat]; exact r3
    · rw [endL_cat]; exact r4
    · rw [endL_cat]; exact fun hp => r7 (hsz hp)
    · exact hz
    · rfl
    · have hc1 := give_ok (k := k) (f' := f') h hg (fun _ e he => flR_ok hr0 he)
      have hc2 := hap_ok c.flows[k].id 3 hc1
      have h2 := okCn_iff.1 hc2
      refine okCn_iff.2 ⟨h2.1, h2.2.1, h2.2.2.1, h2.2.2.2.1, h2.2.2.2.2.1, h2.2.2.2.2.2.1, ?_⟩
      refine okFls_ids ?_ (hap_ids c.reg c.flows[k].id 3).symm
      exact okFls_set h'.2.2.2.2.2.2 fun _ e he => ended_okF (flR_ok hr0 he)
  · rw [if_neg hE]
    refine ⟨f', fun x hx => ?_, r2, r3, r4, fun hp => r7 (hsz hp), r8, rfl, rfl, rfl, rfl, hz, by cases e : endB f' <;> simp_all, r6, Or.inl rfl, give_ok h hg (fun _ e he => flR_ok hr0 he)⟩
    obtain ⟨x1, x2, x3, x4, x5⟩ := r1 x hx
    exact ⟨x1, Or.inl x2, x3, x5⟩
end Go.Proofs.YtllaeakeaabiaaaGreat
