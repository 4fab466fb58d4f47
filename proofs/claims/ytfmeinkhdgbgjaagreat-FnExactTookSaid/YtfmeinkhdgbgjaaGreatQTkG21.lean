/- Several small texts of one level, one behind the other. -/
import Derived.Test.YtfmeinkhdgbgjaaGreatQTkG20
import Derived.Test.YtfmeinkhdgbgjaaGreatQTkG10
import Derived.Test.YtfmeinkhdgbgjaaGreatQTkG4
/- Chapter 17's model in place: what happens to a stream, and a stream that fails. -/
namespace Go.Proofs.YtfmeinkhdgbgjaaGreat
open Go.RowKit
set_option maxRecDepth 100000
set_option linter.unusedSimpArgs false
set_option linter.unusedVariables false
theorem owr_ev {w : World} {v : Value} {L : List EntryD} {bs : List Nat} (h : OwR entryS w v L bs) : w.ownsRow 0 101 2 v L.length (ev L) ∧ bs = v.ownBlock.toList := OwR.flat (E := entryS) (f := EntryD.cs) (fun _ _ _ _ h => h) h
theorem ev_owr {w : World} {v : Value} {L : List EntryD} (h : w.ownsRow 0 101 2 v L.length (ev L)) : OwR entryS w v L v.ownBlock.toList := owR_flat (E := entryS) (f := EntryD.cs) (fun d hd => ⟨rfl, rfl⟩) h
/-- The Registry of a Conn in place, and the Conn behind a change of it. -/
theorem CnM.reg {w : World} {g : Nat} {d : CnD} {bs : List Nat} (h : CnM w g d bs) :
    ∃ ve C, RgM w g 32 [] C 0 d.reg ve ∧ (∀ x ∈ ve.ownBlock.toList, x ∈ bs) ∧
      ∀ w' r' ve', RgM w' g 32 [] C 0 r' ve' → TurnB (g :: ve.ownBlock.toList) w w' → Newer w ve ve' → ∃ bs', CnM w' g { d with reg := r' } bs' ∧ NewB w bs bs' := by
  obtain ⟨⟨ve, vi, vo, vf, hrow, ⟨be, bi, bo, bf, h1, h2, h3, h4, rfl⟩, hn⟩, hng⟩ := h
  obtain ⟨ho, rfl⟩ := owr_ev h1
  have hdis : ∀ x ∈ bi ++ bo ++ bf, x ∉ ve.ownBlock.toList := fun x hx hx2 => by
    have hn' : (ve.ownBlock.toList ++ (bi ++ bo ++ bf)).Nodup := by simpa [List.append_assoc] using hn
    rw [List.nodup_append] at hn'
    exact hn'.2.2 x hx2 x hx rfl
  refine ⟨ve, [.int .i64 d.inr, vi, .int .i64 d.outr, vo, .int .i64 d.get, .int .i64 d.give, .int .i64 d.first, vf, .bool d.away, .bool d.dead], ⟨⟨hrow, rfl⟩, ho, fun e => hng (by simp [e])⟩, fun x hx => by simp at hx ⊢; simp [hx], fun w' r' ve' hr ht hnw => ?_⟩
  have hlt : ∀ x ∈ bi ++ bo ++ bf, x < w.heap.size := fun x hx => by
    simp only [List.mem_append] at hx
    rcases hx with (hx | hx) | hx
    · exact h2.lt x hx
    · exact h3.lt x hx
    · exact h4.lt x hx
  have hk : ∀ x ∈ bi ++ bo ++ bf, w'.heap[x]? = w.heap[x]? := fun x hx => ht.block x (hlt x hx) (by
    simp only [List.mem_cons, not_or]
    exact ⟨fun e => hng (by rw [← e]; simp only [List.mem_append] at hx ⊢; rcases hx with (hx | hx) | hx <;> simp [hx]), hdis x hx⟩)
  have hnew : ∀ x ∈ ve'.ownBlock.toList, x ∈ ve.ownBlock.toList ∨ w.heap.size ≤ x := fun x hx => by
    have hx' : ve'.ownBlock = some x := by cases hv : ve'.ownBlock <;> simp [hv] at hx ⊢; exact hx.symm
    rcases hnw x hx' with e | e
    · exact .inl (by rw [e]; simp)
    · exact .inr e
  refine ⟨ve'.ownBlock.toList ++ bi ++ bo ++ bf, ⟨⟨ve', vi, vo, vf, hr.mid.row, ⟨ve'.ownBlock.toList, bi, bo, bf, ev_owr hr.own, h2.keep ht.size (fun x hx => hk x (by simp [hx])), h3.keep ht.size (fun x hx => hk x (by simp [hx])), h4.keep ht.size (fun x hx => hk x (by simp [hx])), rfl⟩, ?_⟩, ?_⟩, ?_⟩
  · have hn' : (ve.ownBlock.toList ++ (bi ++ bo ++ bf)).Nodup := by simpa [List.append_assoc] using hn
    rw [List.nodup_append] at hn'
    have : (ve'.ownBlock.toList ++ (bi ++ bo ++ bf)).Nodup := by
      rw [List.nodup_append]
      refine ⟨opt_nodup _, hn'.2.1, fun x hx y hy e => ?_⟩
      subst e
      rcases hnew x hx with e | e
      · exact hdis x hy e
      · have := hlt x hy; omega
    simpa [List.append_assoc] using this
  · intro hg
    simp only [List.mem_append] at hg hng
    rcases hg with ((hg | hg) | hg) | hg
    · have : ve'.ownBlock = some g := by cases hv : ve'.ownBlock <;> simp [hv] at hg ⊢; exact hg.symm
      exact hr.ne this
    · exact hng (.inl (.inl (.inr hg)))
    · exact hng (.inl (.inr hg))
    · exact hng (.inr hg)
  · intro x hx
    simp only [List.mem_append] at hx ⊢
    rcases hx with ((hx | hx) | hx) | hx
    · rcases hnew x hx with e | e
      · exact .inl (.inl (.inl (.inl e)))
      · exact .inr e
    · exact .inl (.inl (.inl (.inr hx)))
    · exact .inl (.inl (.inr hx))
    · exact .inl (.inr hx)
theorem hapM (g : Nat) (d : CnD) (bs : List Nat) (id evn : Int) (w : World) (h : CnM w g d bs) :
    Calls Tryz.prog 119 #[.pointer (some ⟨g, 0, none⟩), .int .i64 id, .int .i64 evn] w fun x w' => ∃ bs', x = .returned (.bool (happenRaw d.reg id evn).2) ∧ CnM w' g (hapD d id evn) bs' ∧ TurnB (g :: bs) w w' ∧ NewB w bs bs' := by
  obtain ⟨ve, C, hr, hsub, hput⟩ := h.reg
  refine (happenM g 0 _ [] C ve d.reg id evn w hr).mono ?_
  rintro x w' ⟨ve', rfl, hr', ht, hnw⟩
  obtain ⟨bs', hc, hb⟩ := hput w' _ ve' hr' ht hnw
  exact ⟨bs', rfl, hc, ht.wide (fun x hx => by rcases List.mem_cons.1 hx with rfl | hx; simp; simp [hsub x hx]), hb⟩
theorem modify_is {α : Type} (L : List α) (k : Nat) (h : k < L.length) (f : α → α) : L.modify k f = L.set k (f L[k]) := by
  apply List.ext_getElem (by simp)
  intro j h1 h2
  simp only [List.getElem_modify, List.getElem_set]
  split
  · rename_i e; subst e; rfl
  · rfl
theorem hap_len (r : RegistryD) (id evn : Int) : (happenRaw r id evn).1.es.length = r.es.length := by
  unfold happenRaw
  split
  · rfl
  · split
    · rfl
    · simp
theorem atFl_some {c : CnD} {id : Int} {k : Nat} (h : atE c.reg.es id = some k) (f : FlD → FlD) : atFl c id f = { c with flows := c.flows.modify k f } := by unfold atFl; rw [h]
theorem atFl_none {c : CnD} {id : Int} (h : atE c.reg.es id = none) (f : FlD → FlD) : atFl c id f = c := by unfold atFl; rw [h]
theorem CnM.far {w : World} {g : Nat} {d : CnD} {bs : List Nat} (h : CnM w g d bs) (p : Addr) (v : Value) (hp : p.block ∉ g :: bs) : CnM (w.setCell p v) g d bs := by
  obtain ⟨⟨ve, vi, vo, vf, h1, h2⟩, h3⟩ := h
  refine ⟨⟨ve, vi, vo, vf, h1.far p v (fun e => hp (by simp [e])), h2.keep (by simp) (fun b hb => Below.heap_setCell w p v b (fun e => hp (by rw [← e]; simp [hb])))⟩, h3⟩
end Go.Proofs.YtfmeinkhdgbgjaaGreat
/- Connections in plain words: what is given, taken and replied. -/
namespace Go.Proofs.YtfmeinkhdgbgjaaGreat
open Go.RowKit
set_option maxRecDepth 100000
set_option linter.unusedSimpArgs false
set_option linter.unusedVariables false
theorem at_flow {c : CnD} {id : Int} {k : Nat} (h : okCn c = true) (hq : atE c.reg.es id = some k) : ∃ (hk : k < c.flows.length) (hke : k < c.reg.es.length), c.reg.es[k].id = id ∧ okFl c.flows[k] c.reg.es[k] = true ∧ 1 ≤ id ∧ id ≤ 100000 := by
  obtain ⟨hke, hid, _⟩ := atE_some hq
  have hk : k < c.flows.length := by rw [flows_len h]; exact hke
  have h' := okCn_iff.1 h
  have he := entOk_iff.1 ((okRg_iff.1 h'.1).2.2.2.1 k hke).1
  have hi := idB_iff.1 he.1
  exact ⟨hk, hke, hid, okFls_get h'.2.2.2.2.2.2 k hk hke, by omega, by omega⟩
/-- What is told of a window that grew. -/
theorem win_num {id n : Int} (h0 : 0 ≤ n) (h1 : n ≤ 16777215) : (winFr id n).k = 7 ∧ numV (winFr id n).b = n := by
  refine ⟨rfl, ?_⟩
  show numV (bytV 3 n) = n
  unfold numV
  rw [bytV_size, if_neg (by decide), bytV_bys]
  exact num_byt 3 n h0 (by omega)
theorem grant_win {c : CnD} {id n : Int} (h0 : 0 ≤ n) (h1 : n ≤ 16777215) : ∀ x ∈ (grantD c id n).2, x.k = 7 ∧ numV x.b = n := by
  intro x hx
  unfold grantD at hx
  by_cases hn : n = 0
  · rw [if_pos hn] at hx; cases hx
  · rw [if_neg hn] at hx
    by_cases hi : id = 0
    · rw [if_pos hi] at hx; simp at hx; rw [hx]; exact win_num h0 h1
    · rw [if_neg hi] at hx; simp at hx; rw [hx]; exact win_num h0 h1
theorem grant_zero_get {c : CnD} {n : Int} : (grantD c 0 n).1.get = c.get + n := by
  unfold grantD
  by_cases hn : n = 0
  · rw [if_pos hn, hn]; show c.get = c.get + 0; omega
  · rw [if_neg hn, if_pos rfl]
theorem took_law {c : CnD} {id n : Int} (h : okCn c = true) : okCn (tookRaw c id n).1 = true ∧ (tookRaw c id n).1.get - c.get = (tookRaw c id n).2.2.size ∧ ∀ x ∈ (tookRaw c id n).2.1, x.k = 7 ∧ numV x.b = (tookRaw c id n).2.2.size := by
  have hz : (((⟨#[]⟩ : ByteArray).size : Nat) : Int) = 0 := rfl
  have h' := okCn_iff.1 h
  cases hq : atE c.reg.es id with
  | none =>
    have : tookRaw c id n = (c, [], ⟨#[]⟩) := by unfold tookRaw; rw [hq]
    rw [this]
    exact ⟨h, by show c.get - c.get = _; rw [hz]; omega, nil_told⟩
  | some k =>
    obtain ⟨hk, hke, hid, hfe, hi1, hi2⟩ := at_flow h hq
    by_cases hd : c.dead = true
    · have : tookRaw c id n = (c, [], ⟨#[]⟩) := by
        unfold tookRaw; rw [hq]; simp only [List.getElem?_eq_getElem hk, List.getElem?_eq_getElem hke]; rw [if_pos hd]
      rw [this]
      exact ⟨h, by show c.get - c.get = _; rw [hz]; omega, nil_told⟩
    · obtain ⟨f, hf⟩ : ∃ f, c.flows[k] = f := ⟨_, rfl⟩
      obtain ⟨e, he⟩ : ∃ e, c.reg.es[k] = e := ⟨_, rfl⟩
      obtain ⟨room, hroom⟩ : ∃ room, max 0 (16777215 - max c.get f.get) = room := ⟨_, rfl⟩
      obtain ⟨m, hm⟩ : ∃ m, outN f.tun (min n room) = m := ⟨_, rfl⟩
      rw [hf, he] at hfe
      obtain ⟨y1, y2, y3, y4⟩ := okTu_true (okFl_iff.1 hfe).2.2.2.2
      have hpp := okPp_true y1
      have hmb : (m : Int) ≤ room ∧ m ≤ f.tun.up.b.size ∧ (m : Int) ≤ 2000 := by
        have h1 : m ≤ f.tun.up.b.size := by rw [← hm]; unfold outN; omega
        refine ⟨?_, h1, by omega⟩
        rw [← hm]; unfold outN; omega
      have hss : (f.tun.up.b.extract 0 m).size = m := by rw [ByteArray.size_extract]; omega
      have hwg := inB_true h'.2.2.2.1
      have hwf := inB_true (okFl_iff.1 hfe).2.1
      have hup1 : c.get + m ≤ 16777215 := by omega
      have hup2 : f.get + m ≤ 16777215 := by omega
      have ht : tookRaw c id n = (let c1 := atFl c id (outF (min n room)); let g1 := if e.state = 4 then (c1, []) else grantD c1 id (m : Int); ((grantD g1.1 0 (m : Int)).1, g1.2 ++ (grantD g1.1 0 (m : Int)).2, f.tun.up.b.extract 0 m)) := by
        unfold tookRaw
        rw [hq]
        simp only [List.getElem?_eq_getElem hk, List.getElem?_eq_getElem hke, hf, he, hroom, hm, hss]
        rw [if_neg hd]
      have hout : ∀ e', okFl f e' = true → okFl (outF (min n room) f) e' = true := fun e' hx => by
        rw [okFl_iff] at hx ⊢
        obtain ⟨z, u, hzu⟩ : ∃ z u, outTu f.tun (min n room) = (z, u) := ⟨_, _, rfl⟩
        have hl := (out_law hzu hx.2.2.2.2).2.2.1
        have : z = (outF (min n room) f).tun := by
          unfold outTu at hzu
          rw [if_neg (by rw [hx.2.2.2.2]; decide)] at hzu
          exact (Prod.mk.inj hzu).1.symm
        exact ⟨hx.1, hx.2.1, hx.2.2.1, hx.2.2.2.1, by rw [← this]; exact hl⟩
      have hc1 : okCn (atFl c id (outF (min n room))) = true := atFl_ok h fun j hj hqj e' hx => by
        rw [hq] at hqj
        obtain rfl := Option.some.inj hqj
        rw [hf] at hx ⊢
        exact hout e' hx
      have hat := atFl_at (c := c) hq hk (outF (min n room))
      rw [hf] at hat
      have hg2 : okCn (if e.state = 4 then (atFl c id (outF (min n room)), ([] : List Fr)) else grantD (atFl c id (outF (min n room))) id (m : Int)).1 = true ∧ (if e.state = 4 then (atFl c id (outF (min n room)), ([] : List Fr)) else grantD (atFl c id (outF (min n room))) id (m : Int)).1.get = c.get ∧ ∀ x ∈ (if e.state = 4 then (atFl c id (outF (min n room)), ([] : List Fr)) else grantD (atFl c id (outF (min n room))) id (m : Int)).2, x.k = 7 ∧ numV x.b = m := by
        have hget : (atFl c id (outF (min n room))).get = c.get := by rw [hat]
        split
        · exact ⟨hc1, hget, nil_told⟩
        · refine ⟨grant_ok hc1 (fun e => absurd e (by omega)) fun _ j hj hqj => ?_, (grant_get (by omega)).trans hget, grant_win (by omega) (by omega)⟩
          have hqj' : atE c.reg.es id = some j := by
            have : (atFl c id (outF (min n room))).reg = c.reg := by rw [hat]
            rw [this] at hqj; exact hqj
          rw [hq] at hqj'
          obtain rfl := Option.some.inj hqj'
          have : (atFl c id (outF (min n room))).flows[k] = outF (min n room) f := by simp only [hat]; simp
          rw [this]
          exact win_of (by show _ ≤ f.get + _; omega) (by show f.get + _ ≤ _; omega)
      rw [ht]
      dsimp only
      rw [hss]
      refine ⟨grant_ok hg2.1 (fun _ => ?_) (fun e => absurd rfl e), ?_, app_told hg2.2.2 (grant_win (by omega) (by omega))⟩
      · rw [hg2.2.1]; exact win_of (by omega) (by omega)
      · rw [grant_zero_get, hg2.2.1]; omega
end Go.Proofs.YtfmeinkhdgbgjaaGreat
