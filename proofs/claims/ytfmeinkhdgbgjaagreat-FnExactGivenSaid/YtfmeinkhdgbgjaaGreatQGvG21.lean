/- Several small texts of one level, one behind the other. -/
import Derived.Test.YtfmeinkhdgbgjaaGreatQGvG20
import Derived.Test.YtfmeinkhdgbgjaaGreatQGvG10
import Derived.Test.YtfmeinkhdgbgjaaGreatQGvG5
/- Chapter 17's model in place: what happens to a stream, and a stream that fails. -/
namespace Go.Proofs.YtfmeinkhdgbgjaaGreat
open Go.RowKit
set_option maxRecDepth 100000
set_option linter.unusedSimpArgs false
set_option linter.unusedVariables false
theorem owr_ev {w : World} {v : Value} {L : List EntryD} {bs : List Nat} (h : OwR entryS w v L bs) : w.ownsRow 0 101 2 v L.length (ev L) ∧ bs = v.ownBlock.toList := OwR.flat (E := entryS) (f := EntryD.cs) (fun _ _ _ _ h => h) h
theorem ev_owr {w : World} {v : Value} {L : List EntryD} (h : w.ownsRow 0 101 2 v L.length (ev L)) : OwR entryS w v L v.ownBlock.toList := owR_flat (E := entryS) (f := EntryD.cs) (fun d hd => ⟨rfl, rfl⟩) h
/-- The Registry of a Conn in place, and the Conn behind a change of it. -/
theorem CnM.reg {w : World} {g : Nat} {d : CnD} {bs : List Nat} (h : CnM w g d bs) :
    ∃ ve C, RgM w g 32 [] C 0 d.reg ve ∧ (∀ x ∈ ve.ownBlock.toList, x ∈ bs) ∧
      ∀ w' r' ve', RgM w' g 32 [] C 0 r' ve' → TurnB (g :: ve.ownBlock.toList) w w' → Newer w ve ve' → ∃ bs', CnM w' g { d with reg := r' } bs' ∧ NewB w bs bs' := by
  obtain ⟨⟨ve, vi, vo, vf, hrow, ⟨be, bi, bo, bf, h1, h2, h3, h4, rfl⟩, hn⟩, hng⟩ := h
  obtain ⟨ho, rfl⟩ := owr_ev h1
  have hdis : ∀ x ∈ bi ++ bo ++ bf, x ∉ ve.ownBlock.toList := fun x hx hx2 => by
    have hn' : (ve.ownBlock.toList ++ (bi ++ bo ++ bf)).Nodup := by simpa [List.append_assoc] using hn
    rw [List.nodup_append] at hn'
    exact hn'.2.2 x hx2 x hx rfl
  refine ⟨ve, [.int .i64 d.inr, vi, .int .i64 d.outr, vo, .int .i64 d.get, .int .i64 d.give, .int .i64 d.first, vf, .bool d.away, .bool d.dead], ⟨⟨hrow, rfl⟩, ho, fun e => hng (by simp [e])⟩, fun x hx => by simp at hx ⊢; simp [hx], fun w' r' ve' hr ht hnw => ?_⟩
  have hlt : ∀ x ∈ bi ++ bo ++ bf, x < w.heap.size := fun x hx => by
    simp only [List.mem_append] at hx
    rcases hx with (hx | hx) | hx
    · exact h2.lt x hx
    · exact h3.lt x hx
    · exact h4.lt x hx
  have hk : ∀ x ∈ bi ++ bo ++ bf, w'.heap[x]? = w.heap[x]? := fun x hx => ht.block x (hlt x hx) (by
    simp only [List.mem_cons, not_or]
    exact ⟨fun e => hng (by rw [← e]; simp only [List.mem_append] at hx ⊢; rcases hx with (hx | hx) | hx <;> simp [hx]), hdis x hx⟩)
  have hnew : ∀ x ∈ ve'.ownBlock.toList, x ∈ ve.ownBlock.toList ∨ w.heap.size ≤ x := fun x hx => by
    have hx' : ve'.ownBlock = some x := by cases hv : ve'.ownBlock <;> simp [hv] at hx ⊢; exact hx.symm
    rcases hnw x hx' with e | e
    · exact .inl (by rw [e]; simp)
    · exact .inr e
  refine ⟨ve'.ownBlock.toList ++ bi ++ bo ++ bf, ⟨⟨ve', vi, vo, vf, hr.mid.row, ⟨ve'.ownBlock.toList, bi, bo, bf, ev_owr hr.own, h2.keep ht.size (fun x hx => hk x (by simp [hx])), h3.keep ht.size (fun x hx => hk x (by simp [hx])), h4.keep ht.size (fun x hx => hk x (by simp [hx])), rfl⟩, ?_⟩, ?_⟩, ?_⟩
  · have hn' : (ve.ownBlock.toList ++ (bi ++ bo ++ bf)).Nodup := by simpa [List.append_assoc] using hn
    rw [List.nodup_append] at hn'
    have : (ve'.ownBlock.toList ++ (bi ++ bo ++ bf)).Nodup := by
      rw [List.nodup_append]
      refine ⟨opt_nodup _, hn'.2.1, fun x hx y hy e => ?_⟩
      subst e
      rcases hnew x hx with e | e
      · exact hdis x hy e
      · have := hlt x hy; omega
    simpa [List.append_assoc] using this
  · intro hg
    simp only [List.mem_append] at hg hng
    rcases hg with ((hg | hg) | hg) | hg
    · have : ve'.ownBlock = some g := by cases hv : ve'.ownBlock <;> simp [hv] at hg ⊢; exact hg.symm
      exact hr.ne this
    · exact hng (.inl (.inl (.inr hg)))
    · exact hng (.inl (.inr hg))
    · exact hng (.inr hg)
  · intro x hx
    simp only [List.mem_append] at hx ⊢
    rcases hx with ((hx | hx) | hx) | hx
    · rcases hnew x hx with e | e
      · exact .inl (.inl (.inl (.inl e)))
      · exact .inr e
    · exact .inl (.inl (.inl (.inr hx)))
    · exact .inl (.inl (.inr hx))
    · exact .inl (.inr hx)
theorem hapM (g : Nat) (d : CnD) (bs : List Nat) (id evn : Int) (w : World) (h : CnM w g d bs) :
    Calls Tryz.prog 119 #[.pointer (some ⟨g, 0, none⟩), .int .i64 id, .int .i64 evn] w fun x w' => ∃ bs', x = .returned (.bool (happenRaw d.reg id evn).2) ∧ CnM w' g (hapD d id evn) bs' ∧ TurnB (g :: bs) w w' ∧ NewB w bs bs' := by
  obtain ⟨ve, C, hr, hsub, hput⟩ := h.reg
  refine (happenM g 0 _ [] C ve d.reg id evn w hr).mono ?_
  rintro x w' ⟨ve', rfl, hr', ht, hnw⟩
  obtain ⟨bs', hc, hb⟩ := hput w' _ ve' hr' ht hnw
  exact ⟨bs', rfl, hc, ht.wide (fun x hx => by rcases List.mem_cons.1 hx with rfl | hx; simp; simp [hsub x hx]), hb⟩
theorem hap_len (r : RegistryD) (id evn : Int) : (happenRaw r id evn).1.es.length = r.es.length := by
  unfold happenRaw
  split
  · rfl
  · split
    · rfl
    · simp
theorem CnM.far {w : World} {g : Nat} {d : CnD} {bs : List Nat} (h : CnM w g d bs) (p : Addr) (v : Value) (hp : p.block ∉ g :: bs) : CnM (w.setCell p v) g d bs := by
  obtain ⟨⟨ve, vi, vo, vf, h1, h2⟩, h3⟩ := h
  refine ⟨⟨ve, vi, vo, vf, h1.far p v (fun e => hp (by simp [e])), h2.keep (by simp) (fun b hb => Below.heap_setCell w p v b (fun e => hp (by rw [← e]; simp [hb])))⟩, h3⟩
end Go.Proofs.YtfmeinkhdgbgjaaGreat
/- Connections in plain words: what is given, taken and replied. -/
namespace Go.Proofs.YtfmeinkhdgbgjaaGreat
open Go.RowKit
set_option maxRecDepth 100000
set_option linter.unusedSimpArgs false
set_option linter.unusedVariables false
theorem at_flow {c : CnD} {id : Int} {k : Nat} (h : okCn c = true) (hq : atE c.reg.es id = some k) : ∃ (hk : k < c.flows.length) (hke : k < c.reg.es.length), c.reg.es[k].id = id ∧ okFl c.flows[k] c.reg.es[k] = true ∧ 1 ≤ id ∧ id ≤ 100000 := by
  obtain ⟨hke, hid, _⟩ := atE_some hq
  have hk : k < c.flows.length := by rw [flows_len h]; exact hke
  have h' := okCn_iff.1 h
  have he := entOk_iff.1 ((okRg_iff.1 h'.1).2.2.2.1 k hke).1
  have hi := idB_iff.1 he.1
  exact ⟨hk, hke, hid, okFls_get h'.2.2.2.2.2.2 k hk hke, by omega, by omega⟩
theorem flow_ok {c : CnD} {k : Nat} {f' : FlD} (h : okCn c = true) (hf : ∀ hk : k < c.flows.length, ∀ e, okFl c.flows[k] e = true → okFl f' e = true) : okCn { c with flows := c.flows.set k f' } = true := by
  have h' := okCn_iff.1 h
  exact okCn_iff.2 ⟨h'.1, h'.2.1, h'.2.2.1, h'.2.2.2.1, h'.2.2.2.2.1, h'.2.2.2.2.2.1, okFls_set h'.2.2.2.2.2.2 hf⟩
theorem given_law {c : CnD} {id : Int} {s : ByteArray} {fin : Bool} (h : okCn c = true) : okCn (givenRaw c id s fin).1 = true ∧ (givenRaw c id s fin).2 ≤ s.size := by
  cases hq : atE c.reg.es id with
  | none => rw [given_none hq]; exact ⟨h, by show (0 : Int) ≤ _; omega⟩
  | some k =>
    obtain ⟨hk, hke, _, hfe, _, _⟩ := at_flow h hq
    rw [given_some hq hk hke]
    split
    · exact ⟨h, by show (0 : Int) ≤ _; omega⟩
    · obtain ⟨z, n, hz⟩ : ∃ z n, bckTu c.flows[k].tun s fin = (z, n) := ⟨_, _, rfl⟩
      obtain ⟨m, rfl, hm, _, hok, _⟩ := bck_law hz (okFl_iff.1 hfe).2.2.2.2
      rw [hz]
      refine ⟨flow_ok h fun _ e he => ?_, by show (m : Int) ≤ _; omega⟩
      rw [okFl_iff] at he ⊢
      exact ⟨he.1, he.2.1, he.2.2.1, he.2.2.2.1, hok⟩
end Go.Proofs.YtfmeinkhdgbgjaaGreat
