/- Several small texts of one level, one behind the other. -/
import Derived.Test.YtllaeakeaabiaaaGreatQG25
import Derived.Test.YtllaeakeaabiaaaGreatQG4
import Derived.Lib.SmallJoins
import Derived.OpenShut
import Derived.ChangeOld
/- One element of a row in place: its cells in the midst of the row's block, and the row behind a change of them. A Conn in a block. -/
namespace Go.Proofs.YtllaeakeaabiaaaGreat
open Go.RowKit
set_option maxRecDepth 100000
set_option linter.unusedSimpArgs false
set_option linter.unusedVariables false
section
variable {D : Type} {E : Shp D}
theorem OwR.mid {w : World} {v : Value} {L : List D} {bs : List Nat} (h : OwR E w v L bs) (hn : bs.Nodup) (k : Nat) (hk : k < L.length) :
    ∃ g cap cs b A C, v = .slice (some ⟨g, 0, none⟩) L.length cap ∧ g < w.heap.size ∧ g ∈ bs ∧ g ∉ b ∧ (∀ x ∈ b, x ∈ bs) ∧ E.own w cs L[k] b ∧ RowIs w g E.ty (A ++ cs ++ C) ∧ A.length = k * E.size ∧
      ∀ w' cs' d', RowIs w' g E.ty (A ++ cs' ++ C) → E.own w' cs' d' b → w.heap.size ≤ w'.heap.size → (∀ x ∈ bs, x ≠ g → w'.heap[x]? = w.heap[x]?) → OwR E w' v (L.set k d') bs := by
  obtain ⟨ts, rfl, ho, hE, rfl⟩ := h
  have hk' : k < ts.length := by simpa using hk
  have hm := List.getElem_mem hk'
  have hlen : ∀ t ∈ ts, t.1.length = E.size := fun t ht => E.rd_len (E.own_rd (hE t ht))
  have hap := nodup_apart hn
  obtain ⟨hl, hr⟩ := ho
  rcases hr with ⟨hv, h0⟩ | ⟨g, cap, arr, hv, hb0, hheap, h1, h2, h3, h4⟩
  · omega
  have hg : v.ownBlock = some g := by rw [hv]; rfl
  have hgb : g ∈ v.ownBlock.toList := by rw [hg]; simp
  have hsub : ∀ x ∈ ts[k].2.2, x ∈ ts.flatMap (·.2.2) := fun x hx => List.mem_flatMap.2 ⟨_, hm, hx⟩
  have hgn : g ∉ ts[k].2.2 := fun hx => hap g hgb (hsub g hx)
  have hoth : ∀ t ∈ ts, g ∉ t.2.2 := fun t ht hx => hap g hgb (List.mem_flatMap.2 ⟨t, ht, hx⟩)
  have hsp := flat_split (fun t : List Value × D × List Nat => t.1) ts k hk'
  have hA : ((ts.take k).flatMap (fun t : List Value × D × List Nat => t.1)).length = k * E.size := by
    rw [flat_len (fun t : List Value × D × List Nat => t.1) E.size (ts.take k) (fun t ht => hlen t (List.mem_of_mem_take ht)), List.length_take, Nat.min_eq_left (by omega)]
  have harr : arr.toList = (ts.take k).flatMap (fun t => t.1) ++ ts[k].1 ++ ((ts.drop (k + 1)).flatMap (fun t => t.1) ++ arr.toList.drop (ts.length * E.size)) := by
    rw [← List.append_assoc, ← hsp, ← h4, List.take_append_drop]
  refine ⟨g, cap, ts[k].1, ts[k].2.2, (ts.take k).flatMap (fun t => t.1), (ts.drop (k + 1)).flatMap (fun t => t.1) ++ arr.toList.drop (ts.length * E.size), by rw [hv]; simp, (Array.getElem?_eq_some_iff.1 hheap).1, List.mem_append_left _ hgb, hgn, fun x hx => List.mem_append_right _ (hsub x hx), by simpa using hE _ hm, ?_, hA, ?_⟩
  · show w.heap[g]? = some (.cells _ E.ty (0, 0))
    rw [hheap, ← harr]
  · intro w' cs' d' hrow hown hs hkeep
    have hcs' : cs'.length = E.size := E.rd_len (E.own_rd hown)
    have hset : (ts.set k (cs', d', ts[k].2.2)).flatMap (fun t => t.1) = (ts.take k).flatMap (fun t => t.1) ++ cs' ++ (ts.drop (k + 1)).flatMap (fun t => t.1) := by
      rw [flat_split (fun t : List Value × D × List Nat => t.1) (ts.set k (cs', d', ts[k].2.2)) k (by simpa using hk')]
      simp [List.take_set_of_le, List.drop_set_of_lt]
    have hflen : ((ts.set k (cs', d', ts[k].2.2)).flatMap (fun t => t.1)).length = ts.length * E.size := by
      rw [flat_len (fun t : List Value × D × List Nat => t.1) E.size (ts.set k (cs', d', ts[k].2.2)) (fun t ht => ?_), List.length_set]
      rcases List.mem_or_eq_of_mem_set ht with ht | rfl
      · exact hlen t ht
      · exact hcs'
    refine ⟨ts.set k (cs', d', ts[k].2.2), by rw [List.map_set], ⟨by rw [hflen, List.length_set], .inr ⟨g, cap, _, by rw [hv, List.length_set], hb0, hrow, by rw [List.length_set]; exact h1, h2, ?_, ?_⟩⟩, fun t ht => ?_, ?_⟩
    · have e := congrArg List.length harr
      have e1 : arr.toList.length = arr.size := by simp
      have e2 : ts[k].1.length = E.size := hlen _ hm
      rw [← h3]
      simp only [List.length_append] at e
      simp only [List.size_toArray, List.length_append]
      omega
    · have e : (ts.take k).flatMap (fun t => t.1) ++ cs' ++ ((ts.drop (k + 1)).flatMap (fun t => t.1) ++ arr.toList.drop (ts.length * E.size)) = (ts.set k (cs', d', ts[k].2.2)).flatMap (fun t => t.1) ++ arr.toList.drop (ts.length * E.size) := by rw [hset]; simp
      show List.take _ _ = _
      rw [List.length_set, e, List.take_append_of_le_length (Nat.le_of_eq hflen.symm), List.take_of_length_le (Nat.le_of_eq hflen)]
    · obtain ⟨i, hi, rfl⟩ := List.mem_iff_getElem.1 ht
      have hi' : i < ts.length := by simpa using hi
      by_cases e : i = k
      · subst e; simpa using hown
      · rw [List.getElem_set_ne (by omega)]
        refine E.own_keep (hE _ (List.getElem_mem hi')) hs fun x hx => hkeep x (List.mem_append_right _ (List.mem_flatMap.2 ⟨_, List.getElem_mem hi', hx⟩)) fun hxg => hoth _ (List.getElem_mem hi') (hxg ▸ hx)
    · rw [flat_same (fun t : List Value × D × List Nat => t.2.2) ts k hk' (cs', d', ts[k].2.2) rfl]
end
/-- A Conn in block g: its lists owned in the blocks bs. -/
structure CnM (w : World) (g : Nat) (d : CnD) (bs : List Nat) : Prop where
  ex : ∃ ve vi vo vf, RowIs w g 43 (cncs d ve vi vo vf) ∧ CnOw w bs d ve vi vo vf
  ng : g ∉ bs
/-- What a call may make of the blocks: the same ones, or new ones. -/
def NewB (w : World) (bs bs' : List Nat) : Prop := ∀ b ∈ bs', b ∈ bs ∨ w.heap.size ≤ b
theorem NewB.refl (w : World) (bs : List Nat) : NewB w bs bs := fun _ h => .inl h
theorem NewB.trans {w w' : World} {a b c : List Nat} (h : NewB w a b) (k : NewB w' b c) (hs : w.heap.size ≤ w'.heap.size) : NewB w a c := fun x hx => by
  rcases k x hx with e | e
  · exact h x e
  · exact .inr (Nat.le_trans hs e)
theorem CnM.new {w w' : World} {g : Nat} {d : CnD} {bs : List Nat} (h : CnM w g d bs) (hb : Below w.heap.size w w') : CnM w' g d bs := by
  obtain ⟨⟨ve, vi, vo, vf, h1, h2⟩, h3⟩ := h
  exact ⟨⟨ve, vi, vo, vf, h1.new hb, h2.new hb⟩, h3⟩
theorem CnM.lt {w : World} {g : Nat} {d : CnD} {bs : List Nat} (h : CnM w g d bs) : g < w.heap.size := by obtain ⟨⟨_, _, _, _, h1, _⟩, _⟩ := h; exact h1.lt
/-- A frame of rows elsewhere stays. -/
theorem TurnB.trans2 {bs bs' : List Nat} {a b c : World} (h : TurnB bs a b) (k : TurnB bs' b c) (hn : ∀ x ∈ bs', x ∈ bs ∨ a.heap.size ≤ x) : TurnB bs a c :=
  ⟨k.os.trans h.os, k.tape.trans h.tape, k.output.trans h.output, Nat.le_trans h.size k.size, fun i hi h' => (k.block i (Nat.lt_of_lt_of_le hi h.size) (fun hx => by rcases hn i hx with e | e; exact h' e; omega)).trans (h.block i hi h')⟩
end Go.Proofs.YtllaeakeaabiaaaGreat
/- Connections in plain words: data that comes keeps a connection right, and so does whatever else it gets. -/
namespace Go.Proofs.YtllaeakeaabiaaaGreat
open Go.RowKit
set_option maxRecDepth 100000
set_option linter.unusedSimpArgs false
set_option linter.unusedVariables false
theorem modify_at {α : Type} {L : List α} {k : Nat} (t : α → α) (h : k < L.length) : L.modify k t = L.set k (t L[k]) := by
  rw [modify_set, List.getElem?_eq_getElem h]
theorem getAt_some {c : CnD} {id : Int} {k : Nat} (h : atE c.reg.es id = some k) (hk : k < c.flows.length) : getAt c id = c.flows[k].get := by
  unfold getAt; rw [h]; simp only [List.getElem?_eq_getElem hk]
theorem roomAt_some {c : CnD} {id : Int} {k n : Nat} (h : atE c.reg.es id = some k) (hk : k < c.flows.length) : roomAt c id n = (!(c.flows[k].tun.up.e || c.flows[k].tun.up.k) && decide ((n : Int) ≤ c.flows[k].tun.up.r - c.flows[k].tun.up.b.size)) := by
  unfold roomAt; rw [h]; simp only [List.getElem?_eq_getElem hk]
theorem atFl_at {c : CnD} {id : Int} {k : Nat} (h : atE c.reg.es id = some k) (hk : k < c.flows.length) (t : FlD → FlD) : atFl c id t = { c with flows := c.flows.set k (t c.flows[k]) } := by
  unfold atFl; rw [h]; dsimp only; rw [modify_at t hk]
theorem flows_len {c : CnD} (h : okCn c = true) : c.flows.length = c.reg.es.length := okFls_len (okCn_iff.1 h).2.2.2.2.2.2
theorem may_at {r : RegistryD} {id : Int} (h : mgV (stateD r id) = true) : ∃ k, atE r.es id = some k := by
  cases hq : atE r.es id with
  | some k => exact ⟨k, rfl⟩
  | none =>
    rw [stateD_none hq] at h
    split at h <;> exact absurd h (by decide)
theorem get_ok {c : CnD} (h : okCn c = true) {g : Int} (hg : winB g = true) : okCn { c with get := g } = true := by
  have h' := okCn_iff.1 h
  exact okCn_iff.2 ⟨h'.1, h'.2.1, h'.2.2.1, hg, h'.2.2.2.2⟩
theorem pay_size (f : Fr) : (payV f).size ≤ f.b.size := by
  unfold payV
  split
  · split
    · rw [ByteArray.size_extract]; omega
    · exact Nat.le_refl _
  · exact Nat.zero_le _
theorem put_okT {f : FlD} {e : EntryD} {p : ByteArray} {fin : Bool} (h : okFl f e = true) (hk : f.tun.up.k = false) (hr : (p.size : Int) ≤ f.tun.up.r - f.tun.up.b.size) : okFl (putUp p fin f) e = true := by
  rw [okFl_iff] at h ⊢
  refine ⟨h.1, h.2.1, h.2.2.1, h.2.2.2.1, ?_⟩
  obtain ⟨h1, h2, h3, h4⟩ := okTu_true h.2.2.2.2
  have p1 := okPp_true h1
  refine okTu_of (okPp_of p1.1 p1.2.1 ?_ ?_) h2 h3 h4
  · show ((f.tun.up.b ++ p).size : Int) ≤ f.tun.up.r
    rw [ByteArray.size_append]; omega
  · intro hc
    have : f.tun.up.k = true := hc
    rw [hk] at this; cases this
theorem back_ok {c c1 : CnD} {id n code : Int} (hc : okCn c1 = true) (hg : winB (c1.get + n) = true) : okCn (breakD (grantD c1 0 n).1 id code).1 = true :=
  break_ok _ _ (grant_ok hc (fun _ => hg) (fun h => absurd rfl h))
theorem grant_get {d : CnD} {id n : Int} (hi : id ≠ 0) : (grantD d id n).1.get = d.get := by
  unfold grantD
  by_cases hn : n = 0
  · rw [if_pos hn]
  · rw [if_neg hn, if_neg hi]
    show (atFl d id _).get = d.get
    unfold atFl
    cases atE d.reg.es id <;> rfl
theorem data_ok {c : CnD} {f : Fr} (h : okCn c = true) (hf : okFr f = true) (hk1 : f.k = 1) : okCn (dataD c f).1 = true := by
  have hp := hd_parts (ok_head hf)
  have hst : f.st ≠ 0 := by
    have := ok_head hf
    unfold hdOk at this
    split at this
    · cases this
    · simp only [hk1, if_true, Bool.and_eq_true, decide_eq_true_eq] at this
      omega
  have h' := okCn_iff.1 h
  have hw := inB_true h'.2.2.2.1
  unfold dataD
  dsimp only
  by_cases hg : c.get < (f.b.size : Int)
  · rw [if_pos hg]; exact fail_ok _ h
  rw [if_neg hg]
  have hc1 : okCn { c with get := c.get - (f.b.size : Int) } = true := get_ok h (win_of (by omega) (by omega))
  have hback : winB (c.get - (f.b.size : Int) + f.b.size) = true := win_of (by omega) (by omega)
  by_cases hs0 : stateD c.reg f.st = 0
  · rw [if_pos hs0]; exact fail_ok _ hc1
  rw [if_neg hs0]
  by_cases hm : mgV (stateD c.reg f.st) = false
  · rw [if_pos hm]
    split
    · exact grant_ok hc1 (fun _ => hback) (fun h => absurd rfl h)
    · exact break_ok _ 3 (grant_ok hc1 (fun _ => hback) (fun h => absurd rfl h))
  rw [if_neg hm]
  obtain ⟨k, hq⟩ := may_at (r := c.reg) (id := f.st) (by cases e : mgV (stateD c.reg f.st) <;> simp_all)
  have hke := (atE_some hq).1
  have hkf : k < c.flows.length := by rw [flows_len h]; exact hke
  have hfl := okFls_get h'.2.2.2.2.2.2 k hkf hke
  have hfl' := okFl_iff.1 hfl
  have hwf := inB_true hfl'.2.1
  rw [getAt_some (c := { c with get := c.get - (f.b.size : Int) }) hq hkf]
  by_cases hg2 : c.flows[k].get < (f.b.size : Int)
  · rw [if_pos hg2]
    exact break_ok _ 2 (grant_ok hc1 (fun _ => hback) (fun h => absurd rfl h))
  rw [if_neg hg2, atFl_at (c := { c with get := c.get - (f.b.size : Int) }) hq hkf]
  dsimp only
  obtain ⟨g, hgd⟩ : ∃ g, ({ c.flows[k] with get := c.flows[k].get - (f.b.size : Int) } : FlD) = g := ⟨_, rfl⟩
  have hgg : g.get = c.flows[k].get - (f.b.size : Int) := by rw [← hgd]
  have hgo : ∀ e, okFl c.flows[k] e = true → okFl g e = true := fun e he => by
    rw [← hgd]
    rw [okFl_iff] at he ⊢
    exact ⟨he.1, win_of (by show _ ≤ c.flows[k].get - _; omega) (by show c.flows[k].get - _ ≤ _; omega), he.2.2⟩
  rw [hgd]
  clear hgd
  have hc2 : okCn { c with get := c.get - (f.b.size : Int), flows := c.flows.set k g } = true := by
    have h1 := okCn_iff.1 hc1
    exact okCn_iff.2 ⟨h1.1, h1.2.1, h1.2.2.1, h1.2.2.2.1, h1.2.2.2.2.1, h1.2.2.2.2.2.1, okFls_set h'.2.2.2.2.2.2 fun _ e he => hgo e he⟩
  have hk2 : k < (c.flows.set k g).length := by rw [List.length_set]; exact hkf
  rw [roomAt_some (c := { c with get := c.get - (f.b.size : Int), flows := c.flows.set k g }) hq hk2]
  have hsk : (c.flows.set k g)[k] = g := by simp
  have hsk' : ({ c with get := c.get - (f.b.size : Int), flows := c.flows.set k g } : CnD).flows[k]'hk2 = g := hsk
  rw [hsk']
  by_cases hr : (!(g.tun.up.e || g.tun.up.k) && decide (((payV f).size : Int) ≤ g.tun.up.r - g.tun.up.b.size)) = false
  · rw [if_pos hr]
    exact break_ok _ 2 (grant_ok hc2 (fun _ => hback) (fun h => absurd rfl h))
  rw [if_neg hr, atFl_at (c := { c with get := c.get - (f.b.size : Int), flows := c.flows.set k g }) hq hk2, hsk']
  dsimp only
  rw [List.set_set]
  have hr' : (g.tun.up.e = false ∧ g.tun.up.k = false) ∧ ((payV f).size : Int) ≤ g.tun.up.r - g.tun.up.b.size := by
    cases e : (!(g.tun.up.e || g.tun.up.k) && decide (((payV f).size : Int) ≤ g.tun.up.r - g.tun.up.b.size)) with
    | false => exact absurd e hr
    | true =>
      simp only [Bool.and_eq_true, Bool.not_eq_true', Bool.or_eq_false_iff, decide_eq_true_eq] at e
      exact e
  obtain ⟨q, hqd⟩ : ∃ q, putUp (payV f) (decide (f.fl % 2 = 1)) g = q := ⟨_, rfl⟩
  have hqg : q.get = c.flows[k].get - (f.b.size : Int) := by rw [← hqd]; exact hgg
  have hqo : ∀ e, okFl c.flows[k] e = true → okFl q e = true := fun e he => by rw [← hqd]; exact put_okT (hgo e he) hr'.1.2 hr'.2
  rw [hqd]
  clear hqd
  have hc3 : okCn { c with get := c.get - (f.b.size : Int), flows := c.flows.set k q } = true := by
    have h1 := okCn_iff.1 hc1
    exact okCn_iff.2 ⟨h1.1, h1.2.1, h1.2.2.1, h1.2.2.2.1, h1.2.2.2.2.1, h1.2.2.2.2.2.1, okFls_set h'.2.2.2.2.2.2 fun _ e he => hqo e he⟩
  have hps := pay_size f
  -- the registry may have heard of the end
  have fin : ∀ d : CnD, okCn d = true → d.get = c.get - (f.b.size : Int) → (∀ j (hj : j < d.flows.length), atE d.reg.es f.st = some j → d.flows[j].get = c.flows[k].get - (f.b.size : Int)) →
      okCn (grantD (grantD d f.st ((f.b.size : Int) - (payV f).size)).1 0 ((f.b.size : Int) - (payV f).size)).1 = true := by
    intro d hd hdg hdf
    have hd2 : okCn (grantD d f.st ((f.b.size : Int) - (payV f).size)).1 = true := grant_ok hd (fun e => absurd e hst) fun _ j hj hqj => by
      rw [hdf j hj hqj]
      exact win_of (by omega) (by omega)
    refine grant_ok hd2 (fun _ => ?_) (fun e => absurd rfl e)
    have := grant_get (d := d) (n := (f.b.size : Int) - (payV f).size) hst
    rw [this, hdg]
    exact win_of (by omega) (by omega)
  have hset : ∀ j (hj : j < (c.flows.set k q).length), j = k → (c.flows.set k q)[j].get = c.flows[k].get - (f.b.size : Int) := by
    intro j hj e
    subst e
    simpa using hqg
  by_cases hfin : decide (f.fl % 2 = 1) = true
  · rw [if_pos hfin]
    refine fin _ (hap_ok _ _ hc3) rfl fun j hj hqj => hset j hj ?_
    -- the place stays as it was
    obtain ⟨hj1, hj2, hj3⟩ := atE_some hqj
    obtain ⟨hk1', hk2', hk3'⟩ := atE_some hq
    have hids := hap_ids c.reg f.st 2
    have hat : ∀ i (hi : i < c.reg.es.length) (hi' : i < (happenRaw c.reg f.st 2).1.es.length), ((happenRaw c.reg f.st 2).1.es[i]).id = c.reg.es[i].id := by
      intro i hi hi'
      have := congrArg (fun l => l[i]?) hids
      simp only [List.getElem?_map, List.getElem?_eq_getElem hi, List.getElem?_eq_getElem hi', Option.map_some, Option.some.injEq] at this
      exact this
    have hlen : (happenRaw c.reg f.st 2).1.es.length = c.reg.es.length := by have := congrArg List.length hids; simpa using this
    have hj1' : j < (happenRaw c.reg f.st 2).1.es.length := hj1
    rcases Nat.lt_trichotomy j k with hlt | heq | hgt
    · exact absurd ((hat j (by omega) hj1').symm.trans hj2) (hk3' j hlt)
    · exact heq
    · exact absurd ((hat k hk1' (by omega)).trans hk2') (hj3 k hgt)
  · rw [if_neg hfin]
    refine fin _ hc3 rfl fun j hj hqj => hset j hj ?_
    have : atE c.reg.es f.st = some j := hqj
    rw [hq] at this
    exact (Option.some.inj this).symm
theorem num3 {b : ByteArray} (h : b.size = 3) : 0 ≤ numV b ∧ numV b ≤ 16777215 := by
  unfold numV
  rw [if_neg (by omega)]
  have hr := bys_range b
  have hl : (bys b).length = 3 := by rw [bys_len]; exact h
  match hb : bys b, hl with
  | [x, y, z], _ =>
    rw [hb] at hr
    have h1 := hr x (by simp)
    have h2 := hr y (by simp)
    have h3 := hr z (by simp)
    show 0 ≤ ((0 * 256 + x) * 256 + y) * 256 + z ∧ _
    constructor
    · omega
    · show ((0 * 256 + x) * 256 + y) * 256 + z ≤ _
      omega
theorem got_ok {c : CnD} {f : Fr} (h : okCn c = true) (hf : okFr f = true) : okCn (gotRaw c f).1 = true := by
  have hh := ok_head hf
  unfold gotRaw
  split
  · exact h
  · split
    · rename_i hk
      by_cases h0 : f.b.size = 0
      · unfold settleD; rw [if_pos h0]; exact h
      · refine settle_ok h (num3 ?_)
        unfold hdOk at hh
        rw [hk] at hh
        split at hh
        · cases hh
        · simp only [show ¬ (4 : Int) = 1 by decide, show ¬ (4 : Int) = 2 by decide, show ¬ (4 : Int) = 3 by decide, if_false, if_true, Bool.and_eq_true, Bool.or_eq_true, decide_eq_true_eq] at hh
          omega
    · split
      · split <;> exact h
      · split
        · have h' := okCn_iff.1 h
          exact okCn_iff.2 h'
        · split
          · exact window_ok h
          · split
            · exact head_ok h
            · split
              · rename_i hk; exact data_ok h hf hk
              · split
                · split
                  · exact fail_ok _ h
                  · exact atFl_ok (hap_ok _ _ h) fun k hk _ e he => torn_okF he
                · exact h
end Go.Proofs.YtllaeakeaabiaaaGreat
/- A Conn in memory: marked, read again (by gen_shconn.py). -/
namespace Go.Proofs.YtllaeakeaabiaaaGreat
open Go.RowKit
set_option maxRecDepth 100000
set_option linter.unusedSimpArgs false
set_option linter.unusedVariables false
theorem OwR.apart {D : Type} {E : Shp D} {w w' : World} {v : Value} {L : List D} {bs bs' : List Nat} (h : OwR E w v L bs) (ht : TurnB bs' w w') (ha : ∀ x ∈ bs, x ∉ bs') : OwR E w' v L bs := h.keep ht.size (fun b hb => ht.block b (h.lt b hb) (ha b hb))
set_option maxHeartbeats 4000000 in
theorem markConn1 (d : CnD) (ve vi vo vf : Value) (k : Nat) (bs : List Nat) (w : World) (ho : CnOw w bs d ve vi vo vf) (hk1 : k + cntConn d ≤ 1000000000) :
    Calls Tryz.prog 13 #[cnv d ve vi vo vf, .int .i64 k] w fun x w' => x = .returned (.int .i64 ((k + cntConn d : Nat) : Int)) ∧ CnOw w' bs (mkConn d k) ve vi vo vf ∧ TurnB bs w w' := by
  dsimp only [cnv] at *
  obtain ⟨⟨be, bi, bo, bf, h1, h2, h3, h4, rfl⟩, hn⟩ := ho
  obtain ⟨ae, pe, rfl, _⟩ := h1.rd.form
  obtain ⟨ai, pi, rfl, _⟩ := h2.rd.form
  obtain ⟨ao, po, rfl, _⟩ := h3.rd.form
  obtain ⟨af, pf, rfl, _⟩ := h4.rd.form
  have hd : (∀ x ∈ be, x ∉ bi ∧ x ∉ bo ∧ x ∉ bf) ∧ (∀ x ∈ bi, x ∉ be ∧ x ∉ bo ∧ x ∉ bf) ∧ (∀ x ∈ bo, x ∉ be ∧ x ∉ bi ∧ x ∉ bf) ∧ (∀ x ∈ bf, x ∉ be ∧ x ∉ bi ∧ x ∉ bo) := by
    simp only [List.nodup_append, List.mem_append] at hn
    obtain ⟨⟨⟨n1, n2, n3⟩, n4, n5⟩, n6, n7⟩ := hn
    exact ⟨fun x hx => ⟨fun h => n3 x hx x h rfl, fun h => n5 x (.inl hx) x h rfl, fun h => n7 x (.inl (.inl hx)) x h rfl⟩, fun x hx => ⟨fun h => n3 x h x hx rfl, fun h => n5 x (.inr hx) x h rfl, fun h => n7 x (.inl (.inr hx)) x h rfl⟩,
      fun x hx => ⟨fun h => n5 x (.inl h) x hx rfl, fun h => n5 x (.inr h) x hx rfl, fun h => n7 x (.inr hx) x h rfl⟩, fun x hx => ⟨fun h => n7 x (.inl (.inl h)) x hx rfl, fun h => n7 x (.inl (.inr h)) x hx rfl, fun h => n7 x (.inr h) x hx rfl⟩⟩
  have hnn : be.Nodup ∧ bi.Nodup ∧ bo.Nodup ∧ bf.Nodup := by
    simp only [List.nodup_append] at hn
    obtain ⟨⟨⟨n1, n2, n3⟩, n4, n5⟩, n6, n7⟩ := hn
    exact ⟨n1, n2, n4, n6⟩
  obtain ⟨d1, d2, d3, d4⟩ := hd
  have HD1 := hide d1; have HD2 := hide d2; have HD3 := hide d3; have HD4 := hide d4; have HN := hide hn
  obtain ⟨m1, m2, m3, m4⟩ := hnn
  have HM1 := hide m1; have HM4 := hide m4
  clear d1 d2 d3 d4 hn m1 m2 m3 m4
  have hlt : ∀ b, b = w.heap.size → b ∉ be ∧ b ∉ bi ∧ b ∉ bo ∧ b ∉ bf := fun b e => ⟨fun h => by have := h1.lt b h; omega, fun h => by have := h2.lt b h; omega, fun h => by have := h3.lt b h; omega, fun h => by have := h4.lt b h; omega⟩
  obtain ⟨l1, l2, l3, l4⟩ := hlt _ rfl
  have HL := hide (And.intro l1 (And.intro l2 (And.intro l3 l4)))
  clear l1 l2 l3 l4 hlt
  have RX := rowIs_new w 43 [.int .i64 d.reg.lim, .int .i64 d.reg.top, .slice ae d.reg.es.length pe, .int .i64 d.inr, .slice ai d.inT.length pi, .int .i64 d.outr, .slice ao d.outT.length po, .int .i64 d.get, .int .i64 d.give, .int .i64 d.first, .slice af d.flows.length pf, .bool d.away, .bool d.dead]
  have hbx : Below w.heap.size w (w.alloc (.cells #[.int .i64 d.reg.lim, .int .i64 d.reg.top, .slice ae d.reg.es.length pe, .int .i64 d.inr, .slice ai d.inT.length pi, .int .i64 d.outr, .slice ao d.outT.length po, .int .i64 d.get, .int .i64 d.give, .int .i64 d.first, .slice af d.flows.length pf, .bool d.away, .bool d.dead] 43)) := (Below.refl _ _).alloc (Nat.le_refl _) _
  replace h1 := hide (h1.keep hbx.size (fun b hb => hbx.block b (h1.lt b hb)))
  replace h2 := hide (h2.keep hbx.size (fun b hb => hbx.block b (h2.lt b hb)))
  replace h3 := hide (h3.keep hbx.size (fun b hb => hbx.block b (h3.lt b hb)))
  replace h4 := hide (h4.keep hbx.size (fun b hb => hbx.block b (h4.lt b hb)))
  have HT : Hid (TurnB (be ++ bi ++ bo ++ bf) w (w.alloc (.cells #[.int .i64 d.reg.lim, .int .i64 d.reg.top, .slice ae d.reg.es.length pe, .int .i64 d.inr, .slice ai d.inT.length pi, .int .i64 d.outr, .slice ao d.outT.length po, .int .i64 d.get, .int .i64 d.give, .int .i64 d.first, .slice af d.flows.length pf, .bool d.away, .bool d.dead] 43))) := TurnB.new hbx
  clear hbx
  unfold cntConn at hk1 ⊢
  obtain ⟨K1, hK1⟩ : ∃ K1, k + cntEntryS d.reg.es = K1 := ⟨_, rfl⟩
  obtain ⟨K2, hK2⟩ : ∃ K2, K1 + cntFieldS d.inT = K2 := ⟨_, rfl⟩
  obtain ⟨K3, hK3⟩ : ∃ K3, K2 + cntFieldS d.outT = K3 := ⟨_, rfl⟩
  obtain ⟨K4, hK4⟩ : ∃ K4, K3 + cntFlowS d.flows = K4 := ⟨_, rfl⟩
  rw [show k + (cntEntryS d.reg.es + cntFieldS d.inT + cntFieldS d.outT + cntFlowS d.flows) = K4 by omega]
  have HK : Hid (mkConn d k = ⟨⟨d.reg.lim, d.reg.top, mkEntryS d.reg.es k⟩, d.inr, mkFieldS d.inT K1, d.outr, mkFieldS d.outT K2, d.get, d.give, d.first, mkFlowS d.flows K3, d.away, d.dead⟩) := by show _ = _; unfold mkConn; rw [hK1, hK2, hK3]
  go_enter Tryz.func13, Tryz.ntmps13
  have x0 := RowIs.cell (j := 0) RX rfl
  have x1 := RowIs.cell (j := 1) RX rfl
  have x2 := RowIs.cell (j := 2) RX rfl
  go_wp2_with fail
  clear x0 x1 x2
  have hcl := markRegistry1 d.reg _ k be _ h1.out HM1.out (by omega)
  rw [hK1] at hcl
  refine hcl.mono ?_; clear hcl
  rintro x u0 ⟨rfl, ho, ht⟩
  replace h2 := hide (h2.out.apart ht (fun x hx => (HD2.out x hx).1))
  replace h3 := hide (h3.out.apart ht (fun x hx => (HD3.out x hx).1))
  replace h4 := hide (h4.out.apart ht (fun x hx => (HD4.out x hx).1))
  replace h1 := hide ho
  replace RX := RX.kept (ht.block _ RX.lt HL.out.1)
  replace HT := hide (HT.out.trans (ht.wide (fun x hx => by simp [hx])))
  clear ho ht
  have x3 := RowIs.cell (j := 3) RX rfl
  have x4 := RowIs.cell (j := 4) RX rfl
  go_wp2_with fail
  clear x3 x4
  have hcl := markTable2 d.inT d.inr K1 _ bi _ h2.out (by omega)
  rw [hK2] at hcl
  refine hcl.mono ?_; clear hcl
  rintro x u1 ⟨rfl, ho, ht⟩
  replace h1 := hide (h1.out.apart ht (fun x hx => (HD1.out x hx).1))
  replace h3 := hide (h3.out.apart ht (fun x hx => (HD3.out x hx).2.1))
  replace h4 := hide (h4.out.apart ht (fun x hx => (HD4.out x hx).2.1))
  replace h2 := hide ho
  replace RX := RX.kept (ht.block _ RX.lt HL.out.2.1)
  replace HT := hide (HT.out.trans (ht.wide (fun x hx => by simp [hx])))
  clear ho ht
  have x5 := RowIs.cell (j := 5) RX rfl
  have x6 := RowIs.cell (j := 6) RX rfl
  go_wp2_with fail
  clear x5 x6
  have hcl := markTable2 d.outT d.outr K2 _ bo _ h3.out (by omega)
  rw [hK3] at hcl
  refine hcl.mono ?_; clear hcl
  rintro x u2 ⟨rfl, ho, ht⟩
  replace h1 := hide (h1.out.apart ht (fun x hx => (HD1.out x hx).2.1))
  replace h2 := hide (h2.out.apart ht (fun x hx => (HD2.out x hx).2.1))
  replace h4 := hide (h4.out.apart ht (fun x hx => (HD4.out x hx).2.2))
  replace h3 := hide ho
  replace RX := RX.kept (ht.block _ RX.lt HL.out.2.2.1)
  replace HT := hide (HT.out.trans (ht.wide (fun x hx => by simp [hx])))
  clear ho ht
  have x10 := RowIs.cell (j := 10) RX rfl
  go_wp2_with fail
  clear x10
  have hcl := markFlowS d.flows K3 _ bf _ h4.out HM4.out (by omega)
  rw [hK4] at hcl
  refine hcl.mono ?_; clear hcl
  rintro x u3 ⟨rfl, ho, ht⟩
  replace h1 := hide (h1.out.apart ht (fun x hx => (HD1.out x hx).2.2))
  replace h2 := hide (h2.out.apart ht (fun x hx => (HD2.out x hx).2.2))
  replace h3 := hide (h3.out.apart ht (fun x hx => (HD3.out x hx).2.2))
  replace h4 := hide ho
  replace RX := RX.kept (ht.block _ RX.lt HL.out.2.2.2)
  replace HT := hide (HT.out.trans (ht.wide (fun x hx => by simp [hx])))
  clear ho ht
  go_wp2_with fail
  go_ret
  rw [HK.out]
  exact ⟨rfl, ⟨⟨be, bi, bo, bf, h1.out, h2.out, h3.out, h4.out, rfl⟩, HN.out⟩, HT.out⟩
set_option maxHeartbeats 4000000 in
theorem heldConn1 (d q : CnD) (ve vi vo vf : Value) (k : Nat) (w : World) (hr : CnRd w (mkConn q k) ve vi vo vf) (hk1 : k + cntConn q ≤ 1000000000) :
    Calls Tryz.prog 15 #[cnv d ve vi vo vf, .int .i64 k] w fun x w' => x = .returned (.int .i64 ((k + cntConn q : Nat) : Int)) ∧ Below w.heap.size w w' := by
  dsimp only [cnv] at *
  unfold cntConn at hk1 ⊢
  obtain ⟨K1, hK1⟩ : ∃ K1, k + cntEntryS q.reg.es = K1 := ⟨_, rfl⟩
  obtain ⟨K2, hK2⟩ : ∃ K2, K1 + cntFieldS q.inT = K2 := ⟨_, rfl⟩
  obtain ⟨K3, hK3⟩ : ∃ K3, K2 + cntFieldS q.outT = K3 := ⟨_, rfl⟩
  obtain ⟨K4, hK4⟩ : ∃ K4, K3 + cntFlowS q.flows = K4 := ⟨_, rfl⟩
  rw [show k + (cntEntryS q.reg.es + cntFieldS q.inT + cntFieldS q.outT + cntFlowS q.flows) = K4 by omega]
  have he := hide hr.e
  have hi := hide hr.i
  have ho := hide hr.o
  have hf := hide hr.f
  clear hr
  unfold mkConn at he hi ho hf
  dsimp only at he hi ho hf
  rw [hK1] at hi
  rw [hK1, hK2] at ho
  rw [hK1, hK2, hK3] at hf
  obtain ⟨ae, pe, rfl, _⟩ := he.out.form
  obtain ⟨ai, pi, rfl, _⟩ := hi.out.form
  obtain ⟨ao, po, rfl, _⟩ := ho.out.form
  obtain ⟨af, pf, rfl, _⟩ := hf.out.form
  obtain ⟨ne, hne⟩ : ∃ n, n = (mkEntryS q.reg.es k).length := ⟨_, rfl⟩
  rw [← hne] at he ⊢
  clear hne
  obtain ⟨ni, hni⟩ : ∃ n, n = (mkFieldS q.inT K1).length := ⟨_, rfl⟩
  rw [← hni] at hi ⊢
  clear hni
  obtain ⟨no, hno⟩ : ∃ n, n = (mkFieldS q.outT K2).length := ⟨_, rfl⟩
  rw [← hno] at ho ⊢
  clear hno
  obtain ⟨nf, hnf⟩ : ∃ n, n = (mkFlowS q.flows K3).length := ⟨_, rfl⟩
  rw [← hnf] at hf ⊢
  clear hnf
  have HK1 := hide hK1; have HK2 := hide hK2; have HK3 := hide hK3; have HK4 := hide hK4
  have b1 : K1 ≤ 1000000000 := by omega
  have b2 : K2 ≤ 1000000000 := by omega
  have b3 : K3 ≤ 1000000000 := by omega
  have b4 : K4 ≤ 1000000000 := by omega
  clear hK1 hK2 hK3 hK4 hk1
  have RX := rowIs_new w 43 [.int .i64 d.reg.lim, .int .i64 d.reg.top, .slice ae ne pe, .int .i64 d.inr, .slice ai ni pi, .int .i64 d.outr, .slice ao no po, .int .i64 d.get, .int .i64 d.give, .int .i64 d.first, .slice af nf pf, .bool d.away, .bool d.dead]
  have HB : Below w.heap.size w (w.alloc (.cells #[.int .i64 d.reg.lim, .int .i64 d.reg.top, .slice ae ne pe, .int .i64 d.inr, .slice ai ni pi, .int .i64 d.outr, .slice ao no po, .int .i64 d.get, .int .i64 d.give, .int .i64 d.first, .slice af nf pf, .bool d.away, .bool d.dead] 43)) := (Below.refl _ _).alloc (Nat.le_refl _) _
  go_enter Tryz.func15, Tryz.ntmps15
  have x0 := RowIs.cell (j := 0) RX rfl
  have x1 := RowIs.cell (j := 1) RX rfl
  have x2 := RowIs.cell (j := 2) RX rfl
  have xf := fun j => RowIs.frozen RX j
  have xl := RX.lt
  go_wp2_with fail
  clear x0 x1 x2 xf xl
  have hcl := heldRegistry1 ⟨d.reg.lim, d.reg.top, []⟩ _ k _ q.reg.es (he.out.new HB) (by rw [HK1.out]; exact b1)
  rw [HK1.out] at hcl
  refine hcl.mono ?_; clear hcl
  rintro x u0 ⟨rfl, hb⟩
  have hp0 : ¬ ((K1 : Nat) : Int) < 0 := by omega
  replace RX := RX.new hb
  replace HB := bchain HB hb
  clear hb
  have x3 := RowIs.cell (j := 3) RX rfl
  have x4 := RowIs.cell (j := 4) RX rfl
  have xf := fun j => RowIs.frozen RX j
  have xl := RX.lt
  go_wp2_with fail
  clear x3 x4 xf xl
  have hcl := heldTable2 q.inT d.inr K1 _ _ (hi.out.new HB) (by rw [HK2.out]; exact b2)
  rw [HK2.out] at hcl
  refine hcl.mono ?_; clear hcl
  rintro x u1 ⟨rfl, hb⟩
  have hp1 : ¬ ((K2 : Nat) : Int) < 0 := by omega
  replace RX := RX.new hb
  replace HB := bchain HB hb
  clear hb
  have x5 := RowIs.cell (j := 5) RX rfl
  have x6 := RowIs.cell (j := 6) RX rfl
  have xf := fun j => RowIs.frozen RX j
  have xl := RX.lt
  go_wp2_with fail
  clear x5 x6 xf xl
  have hcl := heldTable2 q.outT d.outr K2 _ _ (ho.out.new HB) (by rw [HK3.out]; exact b3)
  rw [HK3.out] at hcl
  refine hcl.mono ?_; clear hcl
  rintro x u2 ⟨rfl, hb⟩
  have hp2 : ¬ ((K3 : Nat) : Int) < 0 := by omega
  replace RX := RX.new hb
  replace HB := bchain HB hb
  clear hb
  have x10 := RowIs.cell (j := 10) RX rfl
  have xf := fun j => RowIs.frozen RX j
  have xl := RX.lt
  go_wp2_with fail
  clear x10 xf xl
  have hcl := heldFlowS q.flows K3 _ _ (hf.out.new HB) (by rw [HK4.out]; exact b4)
  rw [HK4.out] at hcl
  refine hcl.mono ?_; clear hcl
  rintro x u3 ⟨rfl, hb⟩
  have hp3 : ¬ ((K4 : Nat) : Int) < 0 := by omega
  replace RX := RX.new hb
  replace HB := bchain HB hb
  clear hb
  go_wp2_with fail
  go_ret
  exact ⟨rfl, HB⟩
end Go.Proofs.YtllaeakeaabiaaaGreat
/- A Conn of the laws that came in: what its lists read as. -/
namespace Go.Proofs.YtllaeakeaabiaaaGreat
open Go.RowKit
set_option maxRecDepth 100000
set_option linter.unusedSimpArgs false
set_option linter.unusedVariables false
section
open Go.ChangeShapes Go.WideShapes Go.ChangeAt Go.Joins
variable {H : Type} {enc : TypeId × Value → H} {W : World} {base : Nat} {spare : Nat → Bool} {held : Bool}
theorem trod_part {t : TypeId} {fs : Array Field} {fuel : Nat} {cs : List Value} {x : DataW H × List MemPlace} (ht : Tryz.prog.underlying t = some (.struct fs)) (h : DataW.trod enc Tryz.prog W base spare held fuel t cs = some x) :
    ∃ n, cs.length = Tryz.prog.cellsOf t ∧ ∀ f ∈ fs.toList, ∃ y, DataW.trod enc Tryz.prog W base spare held n f.type ((cs.drop f.offset).take (Tryz.prog.cellsOf f.type)) = some y := by
  obtain ⟨xs, n, _, _, hl, hlen, hf⟩ := DataW.trod_struct ht h
  refine ⟨n, hl, fun f hm => ?_⟩
  obtain ⟨i, hi'⟩ := List.getElem?_of_mem hm
  have hi : fs[i]? = some f := by rw [← Array.getElem?_toList]; exact hi'
  have hi2 : i < xs.length := by rw [hlen]; exact (Array.getElem?_eq_some_iff.1 hi).1
  exact ⟨xs[i], by rw [hf i f hi]; simp [hi2]⟩
theorem list3 {α : Type} {cs : List α} (h : cs.length = 3) : ∃ c0 c1 c2, cs = [c0, c1, c2] := by
  match cs, h with
  | [c0, c1, c2], _ => exact ⟨c0, c1, c2, rfl⟩
theorem list2 {α : Type} {cs : List α} (h : cs.length = 2) : ∃ c0 c1, cs = [c0, c1] := by
  match cs, h with
  | [c0, c1], _ => exact ⟨c0, c1, rfl⟩
theorem list13 {α : Type} {cs : List α} (h : cs.length = 13) : ∃ c0 c1 c2 c3 c4 c5 c6 c7 c8 c9 c10 c11 c12, cs = [c0, c1, c2, c3, c4, c5, c6, c7, c8, c9, c10, c11, c12] := by
  match cs, h with
  | [c0, c1, c2, c3, c4, c5, c6, c7, c8, c9, c10, c11, c12], _ => exact ⟨c0, c1, c2, c3, c4, c5, c6, c7, c8, c9, c10, c11, c12, rfl⟩
theorem list15 {α : Type} {cs : List α} (h : cs.length = 15) : ∃ c0 c1 c2 c3 c4 c5 c6 c7 c8 c9 c10 c11 c12 c13 c14, cs = [c0, c1, c2, c3, c4, c5, c6, c7, c8, c9, c10, c11, c12, c13, c14] := by
  match cs, h with
  | [c0, c1, c2, c3, c4, c5, c6, c7, c8, c9, c10, c11, c12, c13, c14], _ => exact ⟨c0, c1, c2, c3, c4, c5, c6, c7, c8, c9, c10, c11, c12, c13, c14, rfl⟩
theorem trod_pipeG {n : Nat} {c0 c1 c2 c3 : Value} {y : DataW H × List MemPlace} (h : DataW.trod enc Tryz.prog W base spare held n 93 [c0, c1, c2, c3] = some y) :
    ∃ p : PpD, p.b.size ≤ 9223372036854775807 ∧ c0 = .int .i64 p.r ∧ c1 = .string p.b ∧ c2 = .bool p.e ∧ c3 = .bool p.k := by
  obtain ⟨m, _, hf⟩ := trod_part Tryz.underlying93 h
  simp only [List.forall_mem_cons, List.not_mem_nil, false_imp_iff, implies_true, and_true] at hf
  obtain ⟨⟨y0, h0⟩, ⟨y1, h1⟩, ⟨y2, h2⟩, ⟨y3, h3⟩⟩ := hf
  have k0 : Tryz.prog.cellsOf 2 = 1 := by kernel_rfl
  have k1 : Tryz.prog.cellsOf 9 = 1 := by kernel_rfl
  have k2 : Tryz.prog.cellsOf 4 = 1 := by kernel_rfl
  simp only [k0, k1, k2, List.drop_zero, List.drop_succ_cons, List.take_succ_cons, List.take_zero] at h0 h1 h2 h3
  obtain ⟨a, e0, _, wa⟩ := DataW.trod_int Tryz.underlying2 h0
  obtain ⟨s, e1, _, ws⟩ := DataW.trod_string Tryz.underlying9 h1
  obtain ⟨x, e2, _⟩ := DataW.trod_bool Tryz.underlying4 h2
  obtain ⟨z, e3, _⟩ := DataW.trod_bool Tryz.underlying4 h3
  simp at e0 e1 e2 e3
  exact ⟨⟨a, s, x, z⟩, by unfold maxLen at ws; simp only; omega, e0, e1, e2, e3⟩
theorem trod_tunG {n : Nat} {c0 c1 c2 c3 c4 c5 c6 c7 c8 c9 : Value} {y : DataW H × List MemPlace} (h : DataW.trod enc Tryz.prog W base spare held n 95 [c0, c1, c2, c3, c4, c5, c6, c7, c8, c9] = some y) :
    ∃ t : TuD, t.up.b.size ≤ 9223372036854775807 ∧ t.dn.b.size ≤ 9223372036854775807 ∧ [c0, c1, c2, c3, c4, c5, c6, c7, c8, c9] = tucs t := by
  obtain ⟨m, _, hf⟩ := trod_part Tryz.underlying95 h
  simp only [List.forall_mem_cons, List.not_mem_nil, false_imp_iff, implies_true, and_true] at hf
  obtain ⟨⟨y0, h0⟩, ⟨y1, h1⟩, ⟨y2, h2⟩, ⟨y3, h3⟩⟩ := hf
  have k0 : Tryz.prog.cellsOf 2 = 1 := by kernel_rfl
  have k1 : Tryz.prog.cellsOf 93 = 4 := by kernel_rfl
  simp only [k0, k1, List.drop_zero, List.drop_succ_cons, List.take_succ_cons, List.take_zero] at h0 h1 h2 h3
  obtain ⟨p1, q1, rfl, rfl, rfl, rfl⟩ := trod_pipeG h0
  obtain ⟨p2, q2, rfl, rfl, rfl, rfl⟩ := trod_pipeG h1
  obtain ⟨a, e0, _, wa⟩ := DataW.trod_int Tryz.underlying2 h2
  obtain ⟨a', e1, _, wa'⟩ := DataW.trod_int Tryz.underlying2 h3
  simp at e0 e1
  subst e0 e1
  exact ⟨⟨p1, p2, a, a'⟩, q1, q2, rfl⟩
theorem open_cellsFlow {fuel : Nat} {cs : List Value} {x : DataW H × List MemPlace} (h : DataW.trod enc Tryz.prog W base spare held fuel 97 cs = some x) : ∃ d : FlD, flowS.rd W cs d := by
  obtain ⟨m, hl, hf⟩ := trod_part Tryz.underlying97 h
  have hc : Tryz.prog.cellsOf 97 = 15 := by kernel_rfl
  obtain ⟨c0, c1, c2, c3, c4, c5, c6, c7, c8, c9, c10, c11, c12, c13, c14, rfl⟩ := list15 (hl.trans hc)
  simp only [List.forall_mem_cons, List.not_mem_nil, false_imp_iff, implies_true, and_true] at hf
  obtain ⟨⟨y0, h0⟩, ⟨y1, h1⟩, ⟨y2, h2⟩, ⟨y3, h3⟩, ⟨y4, h4⟩, ⟨y5, h5⟩⟩ := hf
  have k0 : Tryz.prog.cellsOf 2 = 1 := by kernel_rfl
  have k1 : Tryz.prog.cellsOf 25 = 1 := by kernel_rfl
  have k2 : Tryz.prog.cellsOf 95 = 10 := by kernel_rfl
  have k3 : Tryz.prog.cellsOf 4 = 1 := by kernel_rfl
  simp only [k0, k1, k2, k3, List.drop_zero, List.drop_succ_cons, List.take_succ_cons, List.take_zero] at h0 h1 h2 h3 h4 h5
  obtain ⟨i0, e0, _⟩ := DataW.trod_int Tryz.underlying2 h0
  obtain ⟨i1, e1, _⟩ := DataW.trod_int Tryz.underlying2 h1
  obtain ⟨i2, e2, _⟩ := DataW.trod_int Tryz.underlying2 h2
  obtain ⟨L3, hL3⟩ := open_shape (E := fieldS) ⟨⟨#[]⟩, ⟨#[]⟩⟩ Tryz.underlying25 (by kernel_rfl) (fun cs n y hy => open_cellsField hy) h3
  obtain ⟨t, t1, t2, et⟩ := trod_tunG h4
  obtain ⟨i5, e5, _⟩ := DataW.trod_bool Tryz.underlying4 h5
  simp only [List.cons.injEq, and_true] at e0 e1 e2 e5 et
  obtain ⟨rfl, rfl, rfl, rfl, rfl, rfl, rfl, rfl, rfl, rfl⟩ := et
  subst e0 e1 e2 e5
  exact ⟨⟨i0, i1, i2, L3, t, i5⟩, c3, rfl, t1, t2, hL3⟩
theorem open_Conn {v : Value} {d : DataW H} {p : List MemPlace} (hv : Value.okWide Tryz.prog W .any base 30 v)
    (h : DataW.Trod enc Tryz.prog W 0 (fun _ => true) true 30 v d p) : ∃ (d : CnD) (ve vi vo vf : Value), v = cnv d ve vi vo vf ∧ CnRd W d ve vi vo vf := by
  obtain ⟨cs, rfl, hsz⟩ := okWide_struct Tryz.underlying30 hv
  have hc : Tryz.prog.cellsOf 30 = 13 := by kernel_rfl
  obtain ⟨fuel, hfu⟩ := h
  obtain ⟨l⟩ := cs
  obtain ⟨c0, c1, c2, c3, c4, c5, c6, c7, c8, c9, c10, c11, c12, rfl⟩ := list13 (show l.length = 13 from hsz.trans hc)
  obtain ⟨m, hl, hf⟩ := trod_part Tryz.underlying30 hfu
  simp only [List.forall_mem_cons, List.not_mem_nil, false_imp_iff, implies_true, and_true] at hf
  obtain ⟨⟨y0, h0⟩, ⟨y1, h1⟩, ⟨y2, h2⟩, ⟨y3, h3⟩, ⟨y4, h4⟩, ⟨y5, h5⟩, ⟨y6, h6⟩, ⟨y7, h7⟩, ⟨y8, h8⟩⟩ := hf
  have k0 : Tryz.prog.cellsOf 2 = 1 := by kernel_rfl
  have k1 : Tryz.prog.cellsOf 24 = 3 := by kernel_rfl
  have k2 : Tryz.prog.cellsOf 27 = 2 := by kernel_rfl
  have k3 : Tryz.prog.cellsOf 4 = 1 := by kernel_rfl
  have k4 : Tryz.prog.cellsOf 28 = 1 := by kernel_rfl
  have k5 : Tryz.prog.cellsOf 22 = 1 := by kernel_rfl
  have k6 : Tryz.prog.cellsOf 25 = 1 := by kernel_rfl
  simp only [Value.cells, k0, k1, k2, k3, k4, List.drop_zero, List.drop_succ_cons, List.take_succ_cons, List.take_zero] at h0 h1 h2 h3 h4 h5 h6 h7 h8
  obtain ⟨m0, _, g0⟩ := trod_part Tryz.underlying24 h0
  simp only [List.forall_mem_cons, List.not_mem_nil, false_imp_iff, implies_true, and_true] at g0
  obtain ⟨⟨z0, j0⟩, ⟨z1, j1⟩, ⟨z2, j2⟩⟩ := g0
  simp only [k0, k5, List.drop_zero, List.drop_succ_cons, List.take_succ_cons, List.take_zero] at j0 j1 j2
  obtain ⟨a0, e0, _⟩ := DataW.trod_int Tryz.underlying2 j0
  obtain ⟨a1, e1, _⟩ := DataW.trod_int Tryz.underlying2 j1
  obtain ⟨Le, hLe⟩ := open_shape (E := entryS) ⟨0, 0⟩ Tryz.underlying22 (by kernel_rfl) (fun cs n y hy => open_cellsEntry hy) j2
  obtain ⟨m1, _, g1⟩ := trod_part Tryz.underlying27 h1
  simp only [List.forall_mem_cons, List.not_mem_nil, false_imp_iff, implies_true, and_true] at g1
  obtain ⟨⟨z3, j3⟩, ⟨z4, j4⟩⟩ := g1
  simp only [k0, k6, List.drop_zero, List.drop_succ_cons, List.take_succ_cons, List.take_zero] at j3 j4
  obtain ⟨a3, e3, _⟩ := DataW.trod_int Tryz.underlying2 j3
  obtain ⟨Li, hLi⟩ := open_shape (E := fieldS) ⟨⟨#[]⟩, ⟨#[]⟩⟩ Tryz.underlying25 (by kernel_rfl) (fun cs n y hy => open_cellsField hy) j4
  obtain ⟨m2, _, g2⟩ := trod_part Tryz.underlying27 h2
  simp only [List.forall_mem_cons, List.not_mem_nil, false_imp_iff, implies_true, and_true] at g2
  obtain ⟨⟨z5, j5⟩, ⟨z6, j6⟩⟩ := g2
  simp only [k0, k6, List.drop_zero, List.drop_succ_cons, List.take_succ_cons, List.take_zero] at j5 j6
  obtain ⟨a5, e5, _⟩ := DataW.trod_int Tryz.underlying2 j5
  obtain ⟨Lo, hLo⟩ := open_shape (E := fieldS) ⟨⟨#[]⟩, ⟨#[]⟩⟩ Tryz.underlying25 (by kernel_rfl) (fun cs n y hy => open_cellsField hy) j6
  obtain ⟨a7, e7, _⟩ := DataW.trod_int Tryz.underlying2 h3
  obtain ⟨a8, e8, _⟩ := DataW.trod_int Tryz.underlying2 h4
  obtain ⟨a9, e9, _⟩ := DataW.trod_int Tryz.underlying2 h5
  obtain ⟨Lf, hLf⟩ := open_shape (E := flowS) ⟨0, 0, 0, [], zTu, false⟩ Tryz.underlying28 (by kernel_rfl) (fun cs n y hy => open_cellsFlow hy) h6
  obtain ⟨b11, e11, _⟩ := DataW.trod_bool Tryz.underlying4 h7
  obtain ⟨b12, e12, _⟩ := DataW.trod_bool Tryz.underlying4 h8
  simp only [List.cons.injEq, and_true] at e0 e1 e3 e5 e7 e8 e9 e11 e12
  subst e0 e1 e3 e5 e7 e8 e9 e11 e12
  exact ⟨⟨⟨a0, a1, Le⟩, a3, Li, a5, Lo, a7, a8, a9, Lf, b11, b12⟩, c2, c4, c6, c10, rfl, hLe, hLi, hLo, hLf⟩
end
end Go.Proofs.YtllaeakeaabiaaaGreat
