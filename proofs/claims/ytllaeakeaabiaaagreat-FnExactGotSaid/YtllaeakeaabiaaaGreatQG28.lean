/- Several small texts of one level, one behind the other. -/
import Derived.Test.YtllaeakeaabiaaaGreatQG27
import Derived.Test.YtllaeakeaabiaaaGreatQG10
import Derived.Test.YtllaeakeaabiaaaGreatQBlocks4
import Derived.Deep.Cut
import Derived.Deep.DeepCutAuto
import Derived.Test.YtllaeakeaabiaaaGreatQG25
import Derived.Test.YtllaeakeaabiaaaGreatQG26
/- Chapter 17's model in place: what happens to a stream, and a stream that fails. -/
namespace Go.Proofs.YtllaeakeaabiaaaGreat
open Go.RowKit
set_option maxRecDepth 100000
set_option linter.unusedSimpArgs false
set_option linter.unusedVariables false
abbrev frv (f : Fr) : Value := .agg #[.int .i64 f.k, .int .i64 f.fl, .int .i64 f.st, .string f.b]
theorem owr_ev {w : World} {v : Value} {L : List EntryD} {bs : List Nat} (h : OwR entryS w v L bs) : w.ownsRow 0 103 2 v L.length (ev L) ∧ bs = v.ownBlock.toList := OwR.flat (E := entryS) (f := EntryD.cs) (fun _ _ _ _ h => h) h
theorem ev_owr {w : World} {v : Value} {L : List EntryD} (h : w.ownsRow 0 103 2 v L.length (ev L)) : OwR entryS w v L v.ownBlock.toList := owR_flat (E := entryS) (f := EntryD.cs) (fun d hd => ⟨rfl, rfl⟩) h
/-- The Registry of a Conn in place, and the Conn behind a change of it. -/
theorem CnM.reg {w : World} {g : Nat} {d : CnD} {bs : List Nat} (h : CnM w g d bs) :
    ∃ ve C, RgM w g 43 [] C 0 d.reg ve ∧ (∀ x ∈ ve.ownBlock.toList, x ∈ bs) ∧
      ∀ w' r' ve', RgM w' g 43 [] C 0 r' ve' → TurnB (g :: ve.ownBlock.toList) w w' → Newer w ve ve' → ∃ bs', CnM w' g { d with reg := r' } bs' ∧ NewB w bs bs' := by
  obtain ⟨⟨ve, vi, vo, vf, hrow, ⟨be, bi, bo, bf, h1, h2, h3, h4, rfl⟩, hn⟩, hng⟩ := h
  obtain ⟨ho, rfl⟩ := owr_ev h1
  have hdis : ∀ x ∈ bi ++ bo ++ bf, x ∉ ve.ownBlock.toList := fun x hx hx2 => by
    have hn' : (ve.ownBlock.toList ++ (bi ++ bo ++ bf)).Nodup := by simpa [List.append_assoc] using hn
    rw [List.nodup_append] at hn'
    exact hn'.2.2 x hx2 x hx rfl
  refine ⟨ve, [.int .i64 d.inr, vi, .int .i64 d.outr, vo, .int .i64 d.get, .int .i64 d.give, .int .i64 d.first, vf, .bool d.away, .bool d.dead], ⟨⟨hrow, rfl⟩, ho, fun e => hng (by simp [e])⟩, fun x hx => by simp at hx ⊢; simp [hx], fun w' r' ve' hr ht hnw => ?_⟩
  have hlt : ∀ x ∈ bi ++ bo ++ bf, x < w.heap.size := fun x hx => by
    simp only [List.mem_append] at hx
    rcases hx with (hx | hx) | hx
    · exact h2.lt x hx
    · exact h3.lt x hx
    · exact h4.lt x hx
  have hk : ∀ x ∈ bi ++ bo ++ bf, w'.heap[x]? = w.heap[x]? := fun x hx => ht.block x (hlt x hx) (by
    simp only [List.mem_cons, not_or]
    exact ⟨fun e => hng (by rw [← e]; simp only [List.mem_append] at hx ⊢; rcases hx with (hx | hx) | hx <;> simp [hx]), hdis x hx⟩)
  have hnew : ∀ x ∈ ve'.ownBlock.toList, x ∈ ve.ownBlock.toList ∨ w.heap.size ≤ x := fun x hx => by
    have hx' : ve'.ownBlock = some x := by cases hv : ve'.ownBlock <;> simp [hv] at hx ⊢; exact hx.symm
    rcases hnw x hx' with e | e
    · exact .inl (by rw [e]; simp)
    · exact .inr e
  refine ⟨ve'.ownBlock.toList ++ bi ++ bo ++ bf, ⟨⟨ve', vi, vo, vf, hr.mid.row, ⟨ve'.ownBlock.toList, bi, bo, bf, ev_owr hr.own, h2.keep ht.size (fun x hx => hk x (by simp [hx])), h3.keep ht.size (fun x hx => hk x (by simp [hx])), h4.keep ht.size (fun x hx => hk x (by simp [hx])), rfl⟩, ?_⟩, ?_⟩, ?_⟩
  · have hn' : (ve.ownBlock.toList ++ (bi ++ bo ++ bf)).Nodup := by simpa [List.append_assoc] using hn
    rw [List.nodup_append] at hn'
    have : (ve'.ownBlock.toList ++ (bi ++ bo ++ bf)).Nodup := by
      rw [List.nodup_append]
      refine ⟨opt_nodup _, hn'.2.1, fun x hx y hy e => ?_⟩
      subst e
      rcases hnew x hx with e | e
      · exact hdis x hy e
      · have := hlt x hy; omega
    simpa [List.append_assoc] using this
  · intro hg
    simp only [List.mem_append] at hg hng
    rcases hg with ((hg | hg) | hg) | hg
    · have : ve'.ownBlock = some g := by cases hv : ve'.ownBlock <;> simp [hv] at hg ⊢; exact hg.symm
      exact hr.ne this
    · exact hng (.inl (.inl (.inr hg)))
    · exact hng (.inl (.inr hg))
    · exact hng (.inr hg)
  · intro x hx
    simp only [List.mem_append] at hx ⊢
    rcases hx with ((hx | hx) | hx) | hx
    · rcases hnew x hx with e | e
      · exact .inl (.inl (.inl (.inl e)))
      · exact .inr e
    · exact .inl (.inl (.inl (.inr hx)))
    · exact .inl (.inl (.inr hx))
    · exact .inl (.inr hx)
theorem hapM (g : Nat) (d : CnD) (bs : List Nat) (id evn : Int) (w : World) (h : CnM w g d bs) :
    Calls Tryz.prog 63 #[.pointer (some ⟨g, 0, none⟩), .int .i64 id, .int .i64 evn] w fun x w' => ∃ bs', x = .returned (.bool (happenRaw d.reg id evn).2) ∧ CnM w' g (hapD d id evn) bs' ∧ TurnB (g :: bs) w w' ∧ NewB w bs bs' := by
  obtain ⟨ve, C, hr, hsub, hput⟩ := h.reg
  refine (happenM g 0 _ [] C ve d.reg id evn w hr).mono ?_
  rintro x w' ⟨ve', rfl, hr', ht, hnw⟩
  obtain ⟨bs', hc, hb⟩ := hput w' _ ve' hr' ht hnw
  exact ⟨bs', rfl, hc, ht.wide (fun x hx => by rcases List.mem_cons.1 hx with rfl | hx; simp; simp [hsub x hx]), hb⟩
theorem resetS (id code : Int) (w : World) (h0 : 0 ≤ code) (h1 : code ≤ 100) : Calls Tryz.prog 106 #[.int .i64 id, .int .i64 code] w fun x w' => x = .returned (frv (resetFr id code)) ∧ Below w.heap.size w w' := by
  dsimp only [frv, resetFr]
  go_enter Tryz.func106, Tryz.ntmps106
  go_wp2_with fail
  refine (specBytes7 code 1 _ h0 (by omega) (by omega) (by omega)).mono ?_; rintro x w1 ⟨rfl, hb1⟩; have hz1 := hb1.size; (try simp at hz1); have hc1 := fun o => hb1.cell (p := ⟨w.heap.size, o, none⟩) (by first | (simp; done) | (simp; omega) | omega); have hf1 := fun o => hb1.frozen (p := ⟨w.heap.size, o, none⟩) (by first | (simp; done) | (simp; omega) | omega)
  go_wp2_with fail
  refine bodyPost_ret (v := .agg #[.int .i64 3, .int .i64 0, .int .i64 id, .string (bytV 1 code)]) (by simp [results, Tryz.results106, go_sem, *]) rfl ?_
  exact ⟨rfl, (by repeat' (first | (with_reducible exact Below.refl _ _) | (with_reducible refine Below.drew ?_) | (with_reducible refine bo_drewN _ ?_) | (with_reducible refine bo_alloc ?_ _) | (refine bchain ?_ (by with_reducible assumption)) | (with_reducible refine Below.setCell ?_ ?_ _) | go_size))⟩
theorem modify_is {α : Type} (L : List α) (k : Nat) (h : k < L.length) (f : α → α) : L.modify k f = L.set k (f L[k]) := by
  apply List.ext_getElem (by simp)
  intro j h1 h2
  simp only [List.getElem_modify, List.getElem_set]
  split
  · rename_i e; subst e; rfl
  · rfl
theorem hap_len (r : RegistryD) (id evn : Int) : (happenRaw r id evn).1.es.length = r.es.length := by
  unfold happenRaw
  split
  · rfl
  · split
    · rfl
    · simp
theorem atFl_some {c : CnD} {id : Int} {k : Nat} (h : atE c.reg.es id = some k) (f : FlD → FlD) : atFl c id f = { c with flows := c.flows.modify k f } := by unfold atFl; rw [h]
theorem atFl_none {c : CnD} {id : Int} (h : atE c.reg.es id = none) (f : FlD → FlD) : atFl c id f = c := by unfold atFl; rw [h]
theorem CnM.far {w : World} {g : Nat} {d : CnD} {bs : List Nat} (h : CnM w g d bs) (p : Addr) (v : Value) (hp : p.block ∉ g :: bs) : CnM (w.setCell p v) g d bs := by
  obtain ⟨⟨ve, vi, vo, vf, h1, h2⟩, h3⟩ := h
  refine ⟨⟨ve, vi, vo, vf, h1.far p v (fun e => hp (by simp [e])), h2.keep (by simp) (fun b hb => Below.heap_setCell w p v b (fun e => hp (by rw [← e]; simp [hb])))⟩, h3⟩
theorem TurnB.fresh {bs : List Nat} {a b : World} (h : TurnB bs a b) {p : Addr} {v : Value} (hp : a.heap.size ≤ p.block) : TurnB bs a (b.setCell p v) :=
  ⟨h.os, h.tape, h.output, by simp; exact h.size, fun k hk hn => by rw [Below.heap_setCell b p v k (fun e => by omega)]; exact h.block k hk hn⟩
set_option maxHeartbeats 2000000 in
theorem breakM (g : Nat) (d : CnD) (bs : List Nat) (id code : Int) (w : World) (h : CnM w g d bs) (h0 : 0 ≤ code) (h1 : code ≤ 100) (hF : d.flows.length = d.reg.es.length) (h60 : d.reg.es.length ≤ 1000) :
    Calls Tryz.prog 103 #[.pointer (some ⟨g, 0, none⟩), .int .i64 id, .int .i64 code] w fun x w' => ∃ bs', x = .returned (frv (breakD d id code).2) ∧ CnM w' g (breakD d id code).1 bs' ∧ TurnB (g :: bs) w w' ∧ NewB w bs bs' := by
  have hZ : (breakD d id code).2 = resetFr id code := rfl
  have hY : (breakD d id code).1 = atFl (hapD d id 5) id tornF := rfl
  rw [hZ, hY]
  clear hZ hY
  obtain ⟨q, hq⟩ : ∃ q, hapD d id 5 = q := ⟨_, rfl⟩
  have hes : q.reg.es.length = d.reg.es.length := by rw [← hq]; exact hap_len d.reg id 5
  have hfl : q.flows = d.flows := by rw [← hq]; rfl
  have hFq : q.flows.length = q.reg.es.length := by rw [hfl, hes]; exact hF
  have h60q : q.reg.es.length ≤ 1000 := by omega
  rw [hq]
  obtain ⟨R, hR⟩ : ∃ R, atFl q id tornF = R := ⟨_, rfl⟩
  rw [hR]
  have HQ := hide hq; have HR := hide hR; have HFQ := hide hFq
  have hfle : q.flows.length ≤ 1000 := by omega
  clear hq hR hes hfl hF h60 hFq
  dsimp only [frv, resetFr]
  have hgl := h.lt
  have hng : w.heap.size ∉ g :: bs := fun hx => by
    rcases List.mem_cons.1 hx with e | hx
    · omega
    · obtain ⟨⟨_, _, _, _, _, hc⟩, _⟩ := h
      have := hc.lt _ hx
      omega
  have HNG := hide hng
  have RB := rowIs_new w 48 [.int .i64 0, .int .i64 0, .int .i64 0, .string ⟨#[]⟩]
  have hbW : Below w.heap.size w (w.alloc (.cells #[.int .i64 0, .int .i64 0, .int .i64 0, .string ⟨#[]⟩] 48)) := (Below.refl _ _).alloc (Nat.le_refl _) _
  have HC0 := hide (h.new hbW)
  have HT0 : Hid (TurnB (g :: bs) w (w.alloc (.cells #[.int .i64 0, .int .i64 0, .int .i64 0, .string ⟨#[]⟩] 48))) := TurnB.new hbW
  have hz0 : w.heap.size ≤ (w.alloc (.cells #[.int .i64 0, .int .i64 0, .int .i64 0, .string ⟨#[]⟩] 48)).heap.size := hbW.size
  clear h hbW hng
  go_enter Tryz.func103, Tryz.ntmps103
  go_wp2_with fail
  refine (hapM g d bs id 5 _ HC0.out).mono ?_; rintro x w1 ⟨bs1, rfl, hc1, ht1, hn1⟩
  rw [HQ.out] at hc1
  have RB1 := RB.kept (ht1.block _ RB.lt HNG.out)
  have HN1 : Hid (NewB w bs bs1) := fun b hb => by
    rcases hn1 b hb with e | e
    · exact .inl e
    · exact .inr (Nat.le_trans hz0 e)
  have hz1 : w.heap.size ≤ w1.heap.size := Nat.le_trans hz0 ht1.size
  have HT1 := hide (HT0.out.trans ht1)
  have HNB : Hid (w.heap.size ∉ g :: bs1) := fun hx => by
    rcases List.mem_cons.1 hx with e | hx
    · exact HNG.out (by simp [e])
    · rcases hn1 _ hx with e | e
      · exact HNG.out (by simp [e])
      · simp at e
        omega
  have HC1 := hide hc1
  clear hc1 ht1 hn1 HC0 HT0 RB hz0
  obtain ⟨⟨qe, qi, qo, qf, hrow, hcw⟩, _⟩ := HC1.out
  have x0 := RowIs.cell (j := 0) hrow rfl
  have x1 := RowIs.cell (j := 1) hrow rfl
  have x2 := RowIs.cell (j := 2) hrow rfl
  have hlx := hrow.lt
  have HRE := hide hcw.rd.e
  clear hrow hcw
  cases hat : atE q.reg.es id with
  | none =>
    have hI : atI q.reg.es id = -1 := by unfold atI; rw [hat]
    have hc := fun u hu => specAt q.reg id qe u hu
    rw [hI] at hc
    have HRq : Hid (R = q) := by show R = q; rw [← HR.out, atFl_none hat]
    clear hI hat
    go_wp2_with fail
    refine (hc _ HRE.out).mono ?_; clear hc
    rintro x w2 ⟨rfl, hb2⟩
    replace RB1 := RB1.new hb2
    replace HC1 : Hid (CnM w2 g R bs1) := by show CnM _ _ _ _; rw [HRq.out]; exact HC1.out.new hb2
    replace HT1 := hide (HT1.out.trans (TurnB.new hb2))
    clear hb2 x0 x1 x2 HRE
    go_wp2_with fail
    refine (resetS id code _ h0 h1).mono ?_; rintro x w3 ⟨rfl, hb3⟩
    replace RB1 := RB1.new hb3
    replace HC1 := hide (HC1.out.new hb3)
    replace HT1 := hide (HT1.out.trans (TurnB.new hb3))
    clear hb3
    dsimp only [frv, resetFr]
    have y0 := RowIs.cell (j := 0) RB1 rfl
    have y1 := RowIs.cell (j := 1) RB1 rfl
    have y2 := RowIs.cell (j := 2) RB1 rfl
    have y3 := RowIs.cell (j := 3) RB1 rfl
    have yf := fun j => RowIs.frozen RB1 j
    go_wp2_with fail
    refine bodyPost_ret (v := .agg #[.int .i64 3, .int .i64 0, .int .i64 id, .string (bytV 1 code)]) (by simp [results, Tryz.results103, go_sem, *]) rfl ?_
    have hfar : ∀ (u : World), CnM u g R bs1 → ∀ j v, CnM (u.setCell ⟨w.heap.size, j, none⟩ v) g R bs1 := fun u hu j v => hu.far _ _ HNB.out
    exact ⟨bs1, rfl, hfar _ (hfar _ (hfar _ (hfar _ HC1.out _ _) _ _) _ _) _ _, (((HT1.out.fresh (Nat.le_refl _)).fresh (Nat.le_refl _)).fresh (Nat.le_refl _)).fresh (Nat.le_refl _), HN1.out⟩
  | some k =>
    obtain ⟨hk, _, _⟩ := atE_some hat
    have hI : atI q.reg.es id = k := atI_some hat
    have hc := fun u hu => specAt q.reg id qe u hu
    rw [hI] at hc
    have hkf : k < q.flows.length := by have := HFQ.out; omega
    have HRq : Hid (R = { q with flows := q.flows.set k { q.flows[k] with tun := tornT q.flows[k].tun } }) := by show R = _; rw [← HR.out, atFl_some hat, modify_is _ _ hkf]; rfl
    clear hI hat
    go_wp2_with fail
    refine (hc _ HRE.out).mono ?_; clear hc
    rintro x w2 ⟨rfl, hb2⟩
    replace RB1 := RB1.new hb2
    replace HC1 := hide (HC1.out.new hb2)
    replace HT1 := hide (HT1.out.trans (TurnB.new hb2))
    clear hb2 x0 x1 x2 HRE
    obtain ⟨gf, A, C, pe, pi, po, cap, hrow, hgm, hgfl, hmid, s1, s2, hput⟩ := HC1.out.tun k hkf
    have x10 := RowIs.cell (j := 10) hrow rfl
    have HM := hide hmid
    have HP := hide hput
    clear hrow hmid hput
    go_wp2_with fail
    refine (l16TornM q.flows[k].tun.up.r q.flows[k].tun.up.b q.flows[k].tun.up.e q.flows[k].tun.up.k q.flows[k].tun.dn.r q.flows[k].tun.dn.b q.flows[k].tun.dn.e q.flows[k].tun.dn.k q.flows[k].tun.went q.flows[k].tun.came gf (k * 15 + 4) _ A C _ HM.out).mono ?_
    rintro x w3 ⟨rfl, hm3, ht3⟩
    have hnb : w.heap.size ≠ gf := fun e => HNB.out (by rw [e]; simp [hgm])
    replace RB1 := RB1.kept (ht3.block _ RB1.lt (by omega))
    replace HC1 : Hid (CnM w3 g R bs1) := by
      show CnM _ _ _ _
      rw [HRq.out]
      exact HP.out w3 (tornT q.flows[k].tun) (by show (⟨#[]⟩ : ByteArray).size ≤ _; decide) (by show (⟨#[]⟩ : ByteArray).size ≤ _; decide) hm3 (turnB_of ht3)
    replace HT1 := hide (HT1.out.trans2 (turnB_of ht3) (fun x hx => by
      simp at hx
      subst hx
      rcases HN1.out _ hgm with e | e
      · exact .inl (by simp [e])
      · exact .inr e))
    clear hm3 ht3 HM HP x10
    go_wp2_with fail
    refine (resetS id code _ h0 h1).mono ?_; rintro x w4 ⟨rfl, hb4⟩
    replace RB1 := RB1.new hb4
    replace HC1 := hide (HC1.out.new hb4)
    replace HT1 := hide (HT1.out.trans (TurnB.new hb4))
    clear hb4
    dsimp only [frv, resetFr]
    have y0 := RowIs.cell (j := 0) RB1 rfl
    have y1 := RowIs.cell (j := 1) RB1 rfl
    have y2 := RowIs.cell (j := 2) RB1 rfl
    have y3 := RowIs.cell (j := 3) RB1 rfl
    have yf := fun j => RowIs.frozen RB1 j
    go_wp2_with fail
    refine bodyPost_ret (v := .agg #[.int .i64 3, .int .i64 0, .int .i64 id, .string (bytV 1 code)]) (by simp [results, Tryz.results103, go_sem, *]) rfl ?_
    have hfar : ∀ (u : World), CnM u g R bs1 → ∀ j v, CnM (u.setCell ⟨w.heap.size, j, none⟩ v) g R bs1 := fun u hu j v => hu.far _ _ HNB.out
    exact ⟨bs1, rfl, hfar _ (hfar _ (hfar _ (hfar _ HC1.out _ _) _ _) _ _) _ _, (((HT1.out.fresh (Nat.le_refl _)).fresh (Nat.le_refl _)).fresh (Nat.le_refl _)).fresh (Nat.le_refl _), HN1.out⟩
end Go.Proofs.YtllaeakeaabiaaaGreat
/- The program's Encoded. -/
namespace Go.Proofs.YtllaeakeaabiaaaGreat
open Go.RowKit
set_option maxRecDepth 100000
set_option linter.unusedSimpArgs false
set_option linter.unusedVariables false

theorem encL_take {room : Int} (L l : List Fd) (k : Nat) (h : k < l.length) : (encL room L (l.take (k + 1))).1 = (encL room L (l.take k)).1 ++ (encF room (encL room L (l.take k)).2 l[k]).1 ∧ (encL room L (l.take (k + 1))).2 = (encF room (encL room L (l.take k)).2 l[k]).2 := by
  induction k generalizing L l with
  | zero =>
    cases l with
    | nil => simp at h
    | cons f l => simp [encL, ba_nil_append, ba_append_nil]
  | succ k ih =>
    cases l with
    | nil => simp at h
    | cons f l =>
      have hk : k < l.length := by simpa using h
      obtain ⟨i1, i2⟩ := ih (encF room L f).2 l hk
      simp only [List.take_succ_cons, encL, List.getElem_cons_succ]
      exact ⟨by rw [i1, ba_append_assoc], i2⟩
theorem encF_size {room : Int} {L : List Fd} (f : Fd) : (encF room L f).1.size ≤ 500 := by
  unfold encF
  split
  · have := preV_small (lookL L f).1 7 128; simp only; omega
  · have h1 := preV_small (lookL L f).1 6 64
    have h2 := litV_small f.n
    have h3 := litV_small f.v
    simp only
    rw [ba_size_append, ba_size_append]
    split
    · omega
    · have : (⟨#[]⟩ : ByteArray).size = 0 := rfl
      omega
theorem encL_size {room : Int} : ∀ (l L : List Fd), (encL room L l).1.size ≤ 500 * l.length
  | [], L => by show (⟨#[]⟩ : ByteArray).size ≤ _; simp [ByteArray.size]
  | f :: l, L => by
    have h1 := encF_size (room := room) (L := L) f
    have h2 := encL_size (room := room) l (encF room L f).2
    show ((encF room L f).1 ++ (encL room (encF room L f).2 l).1).size ≤ _
    rw [ba_size_append]
    simp
    omega

end Go.Proofs.YtllaeakeaabiaaaGreat
/- Connections in plain words: one that fails tells just that; else it is alive as it was, has no fewer streams, and the limit stays. -/
namespace Go.Proofs.YtllaeakeaabiaaaGreat
open Go.RowKit
set_option maxRecDepth 100000
set_option linter.unusedSimpArgs false
set_option linter.unusedVariables false
def Ext (c d : CnD) : Prop := d.dead = c.dead ∧ c.flows.length ≤ d.flows.length ∧ d.reg.lim = c.reg.lim
theorem Ext.refl (c : CnD) : Ext c c := ⟨rfl, Nat.le_refl _, rfl⟩
theorem Ext.trans {a b c : CnD} (h : Ext a b) (k : Ext b c) : Ext a c := ⟨k.1.trans h.1, Nat.le_trans h.2.1 k.2.1, k.2.2.trans h.2.2⟩
theorem hap_lim (r : RegistryD) (id ev : Int) : (happenRaw r id ev).1.lim = r.lim := by
  unfold happenRaw
  split
  · rfl
  · split <;> rfl
theorem ext_hap (c : CnD) (id ev : Int) : Ext c (hapD c id ev) := ⟨rfl, Nat.le_refl _, hap_lim _ _ _⟩
theorem ext_at (c : CnD) (id : Int) (t : FlD → FlD) : Ext c (atFl c id t) := by
  unfold atFl
  split
  · exact ⟨rfl, by simp, rfl⟩
  · exact Ext.refl _
theorem ext_break (c : CnD) (id code : Int) : Ext c (breakD c id code).1 := (ext_hap c id 5).trans (ext_at _ _ _)
theorem ext_grant (c : CnD) (id n : Int) : Ext c (grantD c id n).1 := by
  unfold grantD
  by_cases hn : n = 0
  · rw [if_pos hn]; exact Ext.refl _
  · rw [if_neg hn]
    by_cases hi : id = 0
    · rw [if_pos hi]; exact ⟨rfl, Nat.le_refl _, rfl⟩
    · rw [if_neg hi]; exact ext_at _ _ _
theorem open_lim {r x : RegistryD} {id k : Int} (h : openRaw r id = (x, k)) : x.lim = r.lim := by
  unfold openRaw at h
  split at h
  · split at h <;> (simp only [Prod.mk.injEq] at h; rw [← h.1])
  · simp only [Prod.mk.injEq] at h; rw [← h.1]
/-- It failed and tells just that, or it is as Ext says. -/
def Lawf (c : CnD) (q : CnD × List Fr) : Prop := (q.1.dead = true ∧ ∃ code, q.2 = [awayFr code]) ∨ Ext c q.1
theorem lawf_fail (c d : CnD) (code : Int) : Lawf c (failD d code) := Or.inl ⟨rfl, code, rfl⟩
theorem lawf_settle (c : CnD) (b : ByteArray) : Lawf c (settleD c b) := by
  unfold settleD
  split
  · exact Or.inr (Ext.refl _)
  · split
    · exact Or.inr ⟨rfl, by simp, rfl⟩
    · exact lawf_fail _ _ _
theorem lawf_window (c : CnD) (id : Int) (b : ByteArray) : Lawf c (windowD c id b) := by
  unfold windowD
  split
  · split
    · exact Or.inr ⟨rfl, Nat.le_refl _, rfl⟩
    · exact lawf_fail _ _ _
  · split
    · exact lawf_fail _ _ _
    · split
      · exact Or.inr (Ext.refl _)
      · split
        · exact Or.inr (ext_at _ _ _)
        · exact Or.inr (ext_break _ _ 2)
theorem lawf_head (c : CnD) (id fl : Int) (b : ByteArray) : Lawf c (headD c id fl b) := by
  unfold headD
  match hd : decodedD c.inr c.inT b with
  | (_, _, false) => exact lawf_fail _ _ _
  | (l, (r, M), true) =>
    dsimp only
    have e1 : Ext c { c with inr := r, inT := M } := ⟨rfl, Nat.le_refl _, rfl⟩
    split
    · exact Or.inr e1
    · split
      · exact Or.inr (e1.trans (ext_break _ _ 3))
      · match hq : openRaw c.reg id with
        | (r2, k) =>
          have hl := open_lim hq
          dsimp only
          split
          · exact lawf_fail _ _ _
          · split
            · exact Or.inr ⟨rfl, Nat.le_refl _, hl⟩
            · have e2 : Ext c { c with reg := r2, inr := r, inT := M, flows := c.flows ++ [newFl id c.first l] } := ⟨rfl, by simp, hl⟩
              split
              · exact Or.inr (e2.trans (ext_break _ _ 5))
              · split
                · refine Or.inr ⟨rfl, ?_, ?_⟩
                  · show c.flows.length ≤ ((c.flows ++ [newFl id c.first l]).dropLast ++ [endUp (newFl id c.first l)]).length
                    simp
                  · show (happenRaw r2 id 2).1.lim = c.reg.lim
                    rw [hap_lim]; exact hl
                · exact Or.inr e2
theorem lawf_data (c : CnD) (f : Fr) : Lawf c (dataD c f) := by
  have e1 : Ext c { c with get := c.get - (f.b.size : Int) } := ⟨rfl, Nat.le_refl _, rfl⟩
  unfold dataD
  dsimp only
  split
  · exact lawf_fail _ _ _
  · split
    · exact lawf_fail _ _ _
    · split
      · split
        · exact Or.inr (e1.trans (ext_grant _ _ _))
        · exact Or.inr ((e1.trans (ext_grant _ _ _)).trans (ext_break _ _ 3))
      · split
        · exact Or.inr ((e1.trans (ext_grant _ _ _)).trans (ext_break _ _ 2))
        · split
          · exact Or.inr (((e1.trans (ext_at _ _ _)).trans (ext_grant _ _ _)).trans (ext_break _ _ 2))
          · have e3 := (e1.trans (ext_at _ f.st (fun x => { x with get := x.get - (f.b.size : Int) }))).trans (ext_at _ f.st (putUp (payV f) (decide (f.fl % 2 = 1))))
            split
            · exact Or.inr (((e3.trans (ext_hap _ _ _)).trans (ext_grant _ _ _)).trans (ext_grant _ _ _))
            · exact Or.inr ((e3.trans (ext_grant _ _ _)).trans (ext_grant _ _ _))
theorem got_lawf (c : CnD) (f : Fr) : Lawf c (gotRaw c f) := by
  unfold gotRaw
  split
  · exact Or.inr (Ext.refl _)
  · split
    · exact lawf_settle _ _
    · split
      · split <;> exact Or.inr (Ext.refl _)
      · split
        · exact Or.inr ⟨rfl, Nat.le_refl _, rfl⟩
        · split
          · exact lawf_window _ _ _
          · split
            · exact lawf_head _ _ _ _
            · split
              · exact lawf_data _ _
              · split
                · split
                  · exact lawf_fail _ _ _
                  · exact Or.inr ((ext_hap _ _ _).trans (ext_at _ _ _))
                · exact Or.inr (Ext.refl _)
/-- FnConns in plain words. -/
theorem got_law {c : CnD} {f : Fr} (h : okCn c = true) (hf : okFr f = true) : okCn (gotRaw c f).1 = true ∧ (∀ x ∈ (gotRaw c f).2, okFr x = true) ∧ (c.dead = true → gotRaw c f = (c, [])) ∧
    ((gotRaw c f).1.dead = true ∧ c.dead = false → ∃ code, (gotRaw c f).2 = [awayFr code]) ∧ ((gotRaw c f).1.dead = false ∨ c.dead = true → c.flows.length ≤ (gotRaw c f).1.flows.length ∧ liveL (gotRaw c f).1.reg.es ≤ c.reg.lim) := by
  have ho := got_ok h hf
  have hd : c.dead = true → gotRaw c f = (c, []) := fun e => by unfold gotRaw; rw [if_pos e]
  refine ⟨ho, got_told hf, hd, fun e => ?_, fun e => ?_⟩
  · rcases got_lawf c f with ⟨_, hc⟩ | hx
    · exact hc
    · have := hx.1; rw [e.1, e.2] at this; cases this
  · have hl := (okRg_iff.1 (okCn_iff.1 ho).1).2.2.2.2
    rcases e with e | e
    · rcases got_lawf c f with ⟨hc, _⟩ | hx
      · rw [e] at hc; cases hc
      · exact ⟨hx.2.1, by rw [← hx.2.2]; exact hl⟩
    · rw [hd e] at hl ⊢
      exact ⟨Nat.le_refl _, hl⟩
end Go.Proofs.YtllaeakeaabiaaaGreat
/- The program's way through a frame in plain words: a Conn that a frame gave up with is right; a stream that is opened stands last. -/
namespace Go.Proofs.YtllaeakeaabiaaaGreat
open Go.RowKit
set_option maxRecDepth 100000
set_option linter.unusedSimpArgs false
set_option linter.unusedVariables false
def okO (r : GotO) : Prop := ∀ q, r.2.2 = some q → okCn r.1 = true
theorem okO_none {c : CnD} {l : List Fr} : okO (c, l, none) := fun q h => by cases h
theorem okO_of {c : CnD} {l : List Fr} {q : Option (Int × Int)} (h : okCn c = true) : okO (c, l, q) := fun _ _ => h
theorem settle_okO {c : CnD} (b : ByteArray) (h : okCn c = true) : okO (settleO c b) := by
  unfold settleO
  split
  · exact okO_none
  · split
    · exact okO_none
    · exact okO_of h
theorem window_okO {c : CnD} (id : Int) (b : ByteArray) (h : okCn c = true) : okO (windowO c id b) := by
  unfold windowO
  repeat' split
  all_goals first | exact okO_none | exact okO_of h
/-- A stream that is opened. -/
theorem openC_yes {c : CnD} {id : Int} {reg : RegistryD} {k : Int} {l : List Fd} (h : okCn c = true) (hl : okFs l = true) (hq : openRaw c.reg id = (reg, k)) (h1 : k ≠ 1) (h2 : k ≠ 2) :
    k = 0 ∧ okRg reg = true ∧ reg.es = c.reg.es ++ [⟨id, 1⟩] ∧ okCn { c with reg := reg, flows := c.flows ++ [newFl id c.first l] } = true ∧ atE reg.es id = some c.reg.es.length := by
  have h' := okCn_iff.1 h
  have ho := open_ok (id := id) h'.1
  have hcode := openRaw_code c.reg id
  rw [hq] at ho hcode
  dsimp only at ho hcode
  have hk0 : k = 0 := by omega
  subst hk0
  have hes : reg.es = c.reg.es ++ [⟨id, 1⟩] ∧ c.reg.top < id := by
    unfold openRaw at hq
    split at hq
    · rename_i hc
      split at hq
      · simp at hq
      · simp only [Prod.mk.injEq] at hq; rw [← hq.1]; exact ⟨rfl, hc.2⟩
    · simp at hq
  refine ⟨rfl, ho, hes.1, ?_, ?_⟩
  · refine okCn_iff.2 ⟨ho, h'.2.1, h'.2.2.1, h'.2.2.2.1, h'.2.2.2.2.1, h'.2.2.2.2.2.1, ?_⟩
    show okFls (c.flows ++ [newFl id c.first l]) reg.es = true
    rw [hes.1]
    exact okFls_snoc h'.2.2.2.2.2.2 (new_okF h'.2.2.2.2.2.1 hl)
  · rw [hes.1]
    refine atE_of c.reg.es.length (by simp) (by simp) fun j hj => ?_
    rw [List.getElem_append_left hj]
    have := (entOk_iff.1 ((okRg_iff.1 h'.1).2.2.2.1 j hj).1).2.1
    have := hes.2
    omega
theorem openC_full {c : CnD} {id : Int} {reg : RegistryD} (hq : openRaw c.reg id = (reg, 2)) : reg.es = c.reg.es := by
  unfold openRaw at hq
  split at hq
  · split at hq
    · simp only [Prod.mk.injEq] at hq; rw [← hq.1]
    · simp at hq
  · simp at hq
theorem open_okO {c : CnD} {id fl : Int} {l : List Fd} (h : okCn c = true) (hl : okFs l = true) : okO (openO c id fl l) := by
  unfold openO
  match hq : openRaw c.reg id with
  | (reg, k) =>
    dsimp only
    by_cases h1 : k = 1
    · rw [if_pos h1]
      subst h1
      obtain rfl := open_bad hq
      exact okO_of h
    rw [if_neg h1]
    by_cases h2 : k = 2
    · rw [if_pos h2]; exact okO_none
    rw [if_neg h2]
    split
    · exact okO_of (openC_yes h hl hq h1 h2).2.2.2.1
    · split <;> exact okO_none
theorem head_okO {c : CnD} {id fl : Int} {b : ByteArray} (h : okCn c = true) : okO (headO c id fl b) := by
  unfold headO
  match hd : decodedD c.inr c.inT b with
  | (_, _, false) => exact okO_of h
  | (l, (r, M), true) =>
    obtain ⟨hl, hT⟩ := dec_fine hd
    have h' := okCn_iff.1 h
    have hc : okCn { c with inr := r, inT := M } = true := okCn_iff.2 ⟨h'.1, hT, h'.2.2⟩
    dsimp only
    split
    · exact okO_none
    · split
      · exact okO_of hc
      · exact open_okO hc hl
theorem data_okO {c : CnD} {f : Fr} (h : okCn c = true) : okO (dataO c f) := by
  have h' := okCn_iff.1 h
  have hw := inB_true h'.2.2.2.1
  unfold dataO
  dsimp only
  by_cases hg : c.get < (f.b.size : Int)
  · rw [if_pos hg]; exact okO_of h
  rw [if_neg hg]
  have hc1 : okCn { c with get := c.get - (f.b.size : Int) } = true := get_ok h (win_of (by omega) (by omega))
  have hback : winB (c.get - (f.b.size : Int) + f.b.size) = true := win_of (by omega) (by omega)
  by_cases hs0 : stateD c.reg f.st = 0
  · rw [if_pos hs0]; exact okO_of hc1
  rw [if_neg hs0]
  by_cases hm : mgV (stateD c.reg f.st) = false
  · rw [if_pos hm]
    split
    · exact okO_none
    · exact okO_of (grant_ok hc1 (fun _ => hback) (fun h => absurd rfl h))
  rw [if_neg hm]
  obtain ⟨k, hq⟩ := may_at (r := c.reg) (id := f.st) (by cases e : mgV (stateD c.reg f.st) <;> simp_all)
  have hke := (atE_some hq).1
  have hkf : k < c.flows.length := by rw [flows_len h]; exact hke
  have hfl := okFls_get h'.2.2.2.2.2.2 k hkf hke
  have hfl' := okFl_iff.1 hfl
  have hwf := inB_true hfl'.2.1
  rw [getAt_some (c := { c with get := c.get - (f.b.size : Int) }) hq hkf]
  by_cases hg2 : c.flows[k].get < (f.b.size : Int)
  · rw [if_pos hg2]
    exact okO_of (grant_ok hc1 (fun _ => hback) (fun h => absurd rfl h))
  rw [if_neg hg2, atFl_at (c := { c with get := c.get - (f.b.size : Int) }) hq hkf]
  dsimp only
  obtain ⟨g, hgd⟩ : ∃ g, ({ c.flows[k] with get := c.flows[k].get - (f.b.size : Int) } : FlD) = g := ⟨_, rfl⟩
  have hgo : ∀ e, okFl c.flows[k] e = true → okFl g e = true := fun e he => by
    rw [← hgd]
    rw [okFl_iff] at he ⊢
    exact ⟨he.1, win_of (by show _ ≤ c.flows[k].get - _; omega) (by show c.flows[k].get - _ ≤ _; omega), he.2.2⟩
  rw [hgd]
  clear hgd
  have hc2 : okCn { c with get := c.get - (f.b.size : Int), flows := c.flows.set k g } = true := by
    have h1 := okCn_iff.1 hc1
    exact okCn_iff.2 ⟨h1.1, h1.2.1, h1.2.2.1, h1.2.2.2.1, h1.2.2.2.2.1, h1.2.2.2.2.2.1, okFls_set h'.2.2.2.2.2.2 fun _ e he => hgo e he⟩
  split
  · exact okO_of (grant_ok hc2 (fun _ => hback) (fun h => absurd rfl h))
  · exact okO_none
theorem obey_okO {c : CnD} {f : Fr} (h : okCn c = true) : okO (obeyO c f) := by
  unfold obeyO
  split
  · exact data_okO h
  · split
    · exact head_okO h
    · split
      · split
        · exact okO_of h
        · exact okO_none
      · split
        · exact settle_okO _ h
        · split
          · split <;> exact okO_none
          · split
            · exact okO_none
            · split
              · exact window_okO _ _ h
              · exact okO_none
end Go.Proofs.YtllaeakeaabiaaaGreat
