/- Several small texts of one level, one behind the other. -/
import Derived.Test.YtllaeakeaabiaaaGreatQG26
import Derived.Test.YtllaeakeaabiaaaGreatQG8
import Derived.Test.YtllaeakeaabiaaaGreatQG5
import Derived.Test.YtllaeakeaabiaaaGreatQG2
/- Chapter 17's model in place: the connection fails. -/
namespace Go.Proofs.YtllaeakeaabiaaaGreat
open Go.RowKit
set_option maxRecDepth 100000
set_option linter.unusedSimpArgs false
set_option linter.unusedVariables false
/-- The k-th Flow of a Conn in place: its tunnel in the midst of its row, and the Conn behind a change of that tunnel. -/
theorem CnM.tun {w : World} {g : Nat} {d : CnD} {bs : List Nat} (h : CnM w g d bs) (k : Nat) (hk : k < d.flows.length) :
    ∃ gf A C ve vi vo cap, RowIs w g 43 (cncs d ve vi vo (.slice (some ⟨gf, 0, none⟩) d.flows.length cap)) ∧ gf ∈ bs ∧ gf < w.heap.size ∧ MidIs w gf 89 A C (k * 15 + 4) (tucs d.flows[k].tun) ∧ d.flows[k].tun.up.b.size ≤ 9223372036854775807 ∧ d.flows[k].tun.dn.b.size ≤ 9223372036854775807 ∧
      ∀ w' t', t'.up.b.size ≤ 9223372036854775807 → t'.dn.b.size ≤ 9223372036854775807 → MidIs w' gf 89 A C (k * 15 + 4) (tucs t') → TurnB [gf] w w' → CnM w' g { d with flows := d.flows.set k { d.flows[k] with tun := t' } } bs := by
  obtain ⟨⟨ve, vi, vo, vf, hrow, ⟨be, bi, bo, bf, h1, h2, h3, h4, rfl⟩, hn⟩, hng⟩ := h
  have hn4 : bf.Nodup := by simp only [List.nodup_append] at hn; exact hn.2.1
  have hdis : ∀ x ∈ bf, x ∉ be ++ bi ++ bo := fun x hx hx2 => by
    rw [List.nodup_append] at hn
    exact hn.2.2 x hx2 x hx rfl
  obtain ⟨gf, cap, cs, b, A, C, rfl, hgl, hgm, hgb, hsub, hown, hmid, hA, hput⟩ := h4.mid hn4 k hk
  obtain ⟨v0, bq, rfl, f0, f1, g1, rfl⟩ := hown
  refine ⟨gf, A ++ [.int .i64 d.flows[k].id, .int .i64 d.flows[k].get, .int .i64 d.flows[k].give, v0], [.bool d.flows[k].ended] ++ C, ve, vi, vo, cap, hrow, by simp [hgm], hgl, ⟨?_, by simp [hA]; rfl⟩, f0, f1, ?_⟩
  · have e : A ++ [Value.int .i64 d.flows[k].id, .int .i64 d.flows[k].get, .int .i64 d.flows[k].give, v0] ++ tucs d.flows[k].tun ++ ([.bool d.flows[k].ended] ++ C) = A ++ [.int .i64 d.flows[k].id, .int .i64 d.flows[k].get, .int .i64 d.flows[k].give, v0, .int .i64 d.flows[k].tun.up.r, .string d.flows[k].tun.up.b, .bool d.flows[k].tun.up.e, .bool d.flows[k].tun.up.k, .int .i64 d.flows[k].tun.dn.r, .string d.flows[k].tun.dn.b, .bool d.flows[k].tun.dn.e, .bool d.flows[k].tun.dn.k, .int .i64 d.flows[k].tun.went, .int .i64 d.flows[k].tun.came, .bool d.flows[k].ended] ++ C := by simp
    rw [e]
    exact hmid
  · intro w' t' t1 t2 hm' ht
    have hk1 : ∀ x, x < w.heap.size → x ≠ gf → w'.heap[x]? = w.heap[x]? := fun x hx hne => ht.block x hx (by simpa using hne)
    have hgg : g ≠ gf := fun e => hng (by rw [e]; simp [hgm])
    have hk0 : ∀ x ∈ be ++ bi ++ bo, x ≠ gf := fun x hx e => hdis gf hgm (e ▸ hx)
    have e : A ++ [Value.int .i64 d.flows[k].id, .int .i64 d.flows[k].get, .int .i64 d.flows[k].give, v0] ++ tucs t' ++ ([.bool d.flows[k].ended] ++ C) = A ++ [.int .i64 d.flows[k].id, .int .i64 d.flows[k].get, .int .i64 d.flows[k].give, v0, .int .i64 t'.up.r, .string t'.up.b, .bool t'.up.e, .bool t'.up.k, .int .i64 t'.dn.r, .string t'.dn.b, .bool t'.dn.e, .bool t'.dn.k, .int .i64 t'.went, .int .i64 t'.came, .bool d.flows[k].ended] ++ C := by simp
    have hr' := hm'.row
    rw [e] at hr'
    have hb0k : ∀ x ∈ b, w'.heap[x]? = w.heap[x]? := fun x hx => hk1 x (g1.lt x hx) (fun e => hgb (e ▸ hx))
    have hO := hput w' _ { d.flows[k] with tun := t' } hr' ⟨v0, b, rfl, t1, t2, g1.keep ht.size hb0k, rfl⟩ ht.size (fun x hx hne => hk1 x (h4.lt x hx) hne)
    refine ⟨⟨ve, vi, vo, .slice (some ⟨gf, 0, none⟩) d.flows.length cap, hrow.kept (hk1 g hrow.lt hgg), ⟨be, bi, bo, bf, h1.keep ht.size (fun x hx => hk1 x (h1.lt x hx) (hk0 x (by simp [hx]))), h2.keep ht.size (fun x hx => hk1 x (h2.lt x hx) (hk0 x (by simp [hx]))), h3.keep ht.size (fun x hx => hk1 x (h3.lt x hx) (hk0 x (by simp [hx]))), hO, rfl⟩, hn⟩, hng⟩
theorem turnB_of {g : Nat} {a b : World} (h : Turn g (g + 1) a b) : TurnB [g] a b := ⟨h.os, h.tape, h.output, h.size, fun k hk hn => h.block k hk (by simp at hn; omega)⟩
theorem CnM.setDead {w : World} {g : Nat} {d : CnD} {bs : List Nat} (h : CnM w g d bs) : CnM (w.setCell ⟨g, 12, none⟩ (.bool true)) g { d with dead := true } bs := by
  obtain ⟨⟨ve, vi, vo, vf, h1, h2⟩, h3⟩ := h
  refine ⟨⟨ve, vi, vo, vf, h1.set 12 (.bool true), ?_⟩, h3⟩
  obtain ⟨hx, hn⟩ := h2.keep (w' := w.setCell ⟨g, 12, none⟩ (.bool true)) (by simp) (fun b hb => Below.heap_setCell w _ _ b (fun e => h3 (by have e' : b = g := e; rw [← e']; exact hb)))
  exact ⟨hx, hn⟩
/-- The first k torn. -/
def tornTo (L : List FlD) (k : Nat) : List FlD := (L.take k).map tornF ++ L.drop k
theorem tornTo_len (L : List FlD) (k : Nat) (h : k ≤ L.length) : (tornTo L k).length = L.length := by unfold tornTo; simp; omega
theorem tornTo_zero (L : List FlD) : tornTo L 0 = L := by simp [tornTo]
theorem tornTo_all (L : List FlD) (k : Nat) (h : L.length ≤ k) : tornTo L k = L.map tornF := by unfold tornTo; rw [List.take_of_length_le h, List.drop_eq_nil_of_le h, List.append_nil]
theorem tornTo_at (L : List FlD) (k : Nat) (h : k < L.length) (h' : k < (tornTo L k).length) : (tornTo L k)[k] = L[k] := by
  have e : tornTo L k = (L.take k).map tornF ++ L.drop k := rfl
  rw [List.getElem_of_eq e, List.getElem_append_right (by simp; omega)]
  simp [Nat.min_eq_left (Nat.le_of_lt h)]
theorem tornTo_step (L : List FlD) (k : Nat) (h : k < L.length) : (tornTo L k).set k (tornF L[k]) = tornTo L (k + 1) := by
  unfold tornTo
  rw [List.take_succ_eq_append_getElem h, List.map_append, List.set_append_right _ _ (by simp; omega)]
  simp only [List.length_map, List.length_take, Nat.min_eq_left (Nat.le_of_lt h), Nat.sub_self, List.append_assoc, List.map_cons, List.map_nil, List.singleton_append]
  rw [List.drop_eq_getElem_cons h]
  rfl
set_option maxHeartbeats 2000000 in
theorem failM (g : Nat) (d : CnD) (bs : List Nat) (code : Int) (w : World) (h : CnM w g d bs) (h0 : 0 ≤ code) (h1 : code ≤ 100) (hF : d.flows.length ≤ 1000) :
    Calls Tryz.prog 62 #[.pointer (some ⟨g, 0, none⟩), .int .i64 code] w fun x w' => ∃ v, x = .returned v ∧ CnM w' g (failD d code).1 bs ∧ w'.ownsRow w.heap.size 48 4 v 1 (fr [awayFr code]) ∧ TurnB (g :: bs) w w' := by
  have hgl := h.lt
  have HD0 := hide h.setDead
  obtain ⟨⟨ve, vi, vo, vf, hrow, _⟩, _⟩ := h
  have x12 := RowIs.cell (j := 12) hrow rfl
  have xf := RowIs.frozen hrow 12
  clear hrow
  have HT0 : Hid (TurnB (g :: bs) w (w.setCell ⟨g, 12, none⟩ (.bool true))) := (TurnB.refl _ _).set _ _ (by simp)
  have HZ : Hid (CnM (w.setCell ⟨g, 12, none⟩ (.bool true)) g { d with dead := true, flows := tornTo d.flows 0 } bs) := by show CnM _ _ _ _; rw [tornTo_zero]; exact HD0.out
  clear HD0
  go_enter Tryz.func62, Tryz.ntmps62
  go_upto_region 2 with fail
  generalize w.setCell ⟨g, 12, none⟩ (.bool true) = w1 at *
  clear x12 xf
  go_wp2_with fail
  go_loopw [5] (fun i wr => ∃ k : Nat, i = .int .i64 k ∧ k ≤ d.flows.length ∧ Hid (CnM wr g { d with dead := true, flows := tornTo d.flows k } bs) ∧ Hid (TurnB (g :: bs) w wr)) (fun i _ => d.flows.length - (intOf i).toNat)
  case atStart => exact ⟨0, rfl, Nat.zero_le _, HZ, HT0⟩
  case round =>
    clear HZ HT0
    obtain ⟨k, rfl, hk, HC, HT⟩ := hrel
    have hlen := tornTo_len d.flows k hk
    by_cases hlt : k < d.flows.length
    · obtain ⟨gf, A, C, qe, qi, qo, cap, hrow, hgm, hgfl, hmid, s1, s2, hput⟩ := HC.out.tun k (by show k < (tornTo d.flows k).length; omega)
      dsimp only at hrow hmid s1 s2 hput
      have HK1 : Hid (k + 1 ≤ d.flows.length) := hlt
      have hat := tornTo_at d.flows k hlt (by omega)
      have hst := tornTo_step d.flows k hlt
      rw [hat] at hmid s1 s2 hput
      have x10 := RowIs.cell (j := 10) hrow rfl
      rw [hlen] at x10
      have HP := hide (fun w' t' a b c e => by have := hput w' t' a b c e; exact this)
      have HM := hide hmid
      have HST := hide hst
      have hkc : k < cap ∨ True := .inr trivial
      clear hrow hmid hput hat hst s1 s2
      go_wp2_with fail
      refine (l16TornM d.flows[k].tun.up.r d.flows[k].tun.up.b d.flows[k].tun.up.e d.flows[k].tun.up.k d.flows[k].tun.dn.r d.flows[k].tun.dn.b d.flows[k].tun.dn.e d.flows[k].tun.dn.k d.flows[k].tun.went d.flows[k].tun.came gf (k * 15 + 4) _ A C _ HM.out).mono ?_
      rintro x w2 ⟨rfl, hm2, ht2⟩
      have HC2 : Hid (CnM w2 g { d with dead := true, flows := tornTo d.flows (k + 1) } bs) := by
        show CnM _ _ _ _
        rw [← HST.out]
        exact HP.out w2 (tornT d.flows[k].tun) (by show (⟨#[]⟩ : ByteArray).size ≤ _; decide) (by show (⟨#[]⟩ : ByteArray).size ≤ _; decide) hm2 (turnB_of ht2)
      have HT2 := hide (HT.out.trans ((turnB_of ht2).wide (fun x hx => by simp at hx; subst hx; simp [hgm])))
      clear hm2 ht2 HP HM HST x10
      obtain ⟨⟨ve2, vi2, vo2, vf2, hrow2, _⟩, _⟩ := HC2.out
      go_wp2_with fail
      go_roundw
      case rel => exact ⟨k + 1, by go_num, HK1.out, HC2, HT2⟩
      case measure => have := HK1.out; simp [intOf]; omega
    · have HC2 : Hid (CnM wr g (failD d code).1 bs) := by
        have := HC.out
        rw [tornTo_all _ _ (by omega)] at this
        exact this
      obtain ⟨⟨qe, qi, qo, qf, hrow, hcw⟩, _⟩ := HC.out
      obtain ⟨af, pf, eqf, _⟩ := hcw.rd.f.form
      subst eqf
      have x10 := RowIs.cell (j := 10) hrow rfl
      dsimp only at x10
      rw [hlen] at x10
      clear hrow hcw
      go_wp2_with fail
      refine (specBytes7 code 4 _ h0 (by omega) (by omega) (by omega)).mono ?_; rintro x w3 ⟨rfl, hb3⟩
      have HC3 := hide (HC2.out.new hb3)
      have HT3 := hide (HT.out.trans (TurnB.new hb3))
      clear hb3 x10
      go_wp2_with fail
      go_ret
      have hbx : Below w3.heap.size w3 (w3.alloc (.cells #[.int .i64 6, .int .i64 0, .int .i64 0, .string (bytV 4 code)] 48)) := (Below.refl _ _).alloc (Nat.le_refl _) _
      refine ⟨_, rfl, HC3.out.new hbx, ?_, HT3.out.trans (TurnB.new hbx)⟩
      exact owns_base (owns_lit w3 48 4 1 #[.int .i64 6, .int .i64 0, .int .i64 0, .string (bytV 4 code)] rfl (by omega)) (fun q hq => by simp [Value.ownBlock] at hq; have := HT3.out.size; omega)
end Go.Proofs.YtllaeakeaabiaaaGreat
/- What a right connection holds, in numbers. -/
namespace Go.Proofs.YtllaeakeaabiaaaGreat
open Go.RowKit
set_option maxRecDepth 100000
set_option linter.unusedSimpArgs false
set_option linter.unusedVariables false
theorem winB_nums {x : Int} (h : winB x = true) : -16777215 ≤ x ∧ x ≤ 16777215 := inB_true h
theorem reg_sixty {r : RegistryD} (h : okRg r = true) : r.es.length ≤ 60 := by
  unfold okRg at h
  simp only [Bool.and_eq_true, decide_eq_true_eq] at h
  omega
theorem cn_len {d : CnD} (h : okCn d = true) : d.flows.length = d.reg.es.length ∧ d.reg.es.length ≤ 60 := ⟨flows_len h, reg_sixty (okCn_iff.1 h).1⟩
theorem cn_wins {d : CnD} (h : okCn d = true) : (-16777215 ≤ d.get ∧ d.get ≤ 16777215) ∧ (-16777215 ≤ d.give ∧ d.give ≤ 16777215) ∧ (0 ≤ d.first ∧ d.first ≤ 16777215) := by
  have h' := okCn_iff.1 h
  exact ⟨winB_nums h'.2.2.2.1, winB_nums h'.2.2.2.2.1, inB_true h'.2.2.2.2.2.1⟩
theorem cn_flow {d : CnD} (h : okCn d = true) {f : FlD} (hf : f ∈ d.flows) : (-16777215 ≤ f.get ∧ f.get ≤ 16777215) ∧ (-16777215 ≤ f.give ∧ f.give ≤ 16777215) ∧ okTu f.tun = true ∧ okFs f.fds = true := by
  obtain ⟨i, hi, rfl⟩ := List.mem_iff_getElem.1 hf
  have hl := flows_len h
  have := okFl_iff.1 (okFls_get (okCn_iff.1 h).2.2.2.2.2.2 i hi (by omega))
  exact ⟨winB_nums this.2.1, winB_nums this.2.2.1, this.2.2.2.2, this.2.2.2.1⟩
theorem state_at {r : RegistryD} {id : Int} (h0 : stateD r id ≠ 0) (h4 : stateD r id ≠ 4) : ∃ k, atE r.es id = some k := by
  cases h : atE r.es id with
  | some k => exact ⟨k, rfl⟩
  | none =>
    rw [stateD_none h] at h0 h4
    split at h0
    · rename_i c; rw [if_pos c] at h4; exact absurd rfl h4
    · exact absurd rfl h0
theorem giveAt_some {c : CnD} {id : Int} {k : Nat} (h : atE c.reg.es id = some k) (hk : k < c.flows.length) : giveAt c id = c.flows[k].give := by
  unfold giveAt; rw [h]; simp only [List.getElem?_eq_getElem hk]
end Go.Proofs.YtllaeakeaabiaaaGreat
/- Connections in plain words: what is told are right frames; how many streams there are. -/
namespace Go.Proofs.YtllaeakeaabiaaaGreat
open Go.RowKit
set_option maxRecDepth 100000
set_option linter.unusedSimpArgs false
set_option linter.unusedVariables false
theorem away_fr (code : Int) : okFr (awayFr code) = true := by
  unfold okFr awayFr
  dsimp only
  rw [bytV_size, show hdOk 6 0 0 ((4 : Nat) : Int) = true from by decide]
  simp
theorem reset_fr {id : Int} (code : Int) (h0 : 0 < id) (h1 : id ≤ 100000) : okFr (resetFr id code) = true := by
  unfold okFr resetFr
  dsimp only
  rw [bytV_size]
  unfold hdOk
  rw [inB_of (show (0 : Int) ≤ id by omega) h1, show inB 0 0 3 = true from rfl, show inB ((1 : Nat) : Int) 0 1000 = true from rfl]
  simp
  omega
theorem win_fr {id n : Int} (h0 : 0 ≤ id) (h1 : id ≤ 100000) (h2 : 1 ≤ n) (h3 : n ≤ 16777215) : okFr (winFr id n) = true := by
  unfold okFr winFr
  dsimp only
  rw [bytV_size]
  unfold hdOk
  rw [inB_of h0 h1, show inB 0 0 3 = true from rfl, show inB ((3 : Nat) : Int) 0 1000 = true from rfl]
  have hne : ¬ bytV 3 n = (⟨#[0, 0, 0]⟩ : ByteArray) := by
    intro e
    have h := num_byt 3 n (by omega) (by omega)
    rw [← bytV_bys, e] at h
    have hz : numL (bys (⟨#[0, 0, 0]⟩ : ByteArray)) = 0 := by decide
    omega
  have ht := tl_ne hne
  rw [ht]
  simp
theorem grant_told {c : CnD} {id n : Int} (h0 : 0 ≤ id) (h1 : id ≤ 100000) (h2 : 0 ≤ n) (h3 : n ≤ 16777215) : ∀ x ∈ (grantD c id n).2, okFr x = true := by
  intro x hx
  unfold grantD at hx
  by_cases hn : n = 0
  · rw [if_pos hn] at hx; cases hx
  · rw [if_neg hn] at hx
    by_cases hi : id = 0
    · rw [if_pos hi] at hx
      simp at hx
      rw [hx]; exact win_fr (by decide) (by decide) (by omega) h3
    · rw [if_neg hi] at hx
      simp at hx
      rw [hx]; exact win_fr h0 h1 (by omega) h3
theorem fail_told (c : CnD) (code : Int) : ∀ x ∈ (failD c code).2, okFr x = true := by
  intro x hx
  unfold failD at hx
  simp at hx
  rw [hx]; exact away_fr code
theorem one_told {P : Fr → Prop} {a : Fr} (h : P a) : ∀ x ∈ [a], P x := by intro x hx; simp at hx; rw [hx]; exact h
theorem app_told {P : Fr → Prop} {a b : List Fr} (h : ∀ x ∈ a, P x) (h' : ∀ x ∈ b, P x) : ∀ x ∈ a ++ b, P x := by
  intro x hx
  rcases List.mem_append.1 hx with hx | hx
  · exact h x hx
  · exact h' x hx
theorem nil_told {P : Fr → Prop} : ∀ x ∈ ([] : List Fr), P x := fun x hx => by cases hx
theorem stream_of {f : Fr} (hf : okFr f = true) (hk : f.k = 1 ∨ f.k = 2 ∨ f.k = 3) : 0 < f.st ∧ f.st ≤ 100000 := by
  have hp := hd_parts (ok_head hf)
  have := ok_head hf
  unfold hdOk at this
  split at this
  · cases this
  · refine ⟨?_, hp.2.2.2.1⟩
    rcases hk with hk | hk | hk
    · simp only [hk, if_true, Bool.and_eq_true, decide_eq_true_eq] at this; exact this.1
    · simp only [hk, show ¬ (2 : Int) = 1 by decide, if_false, if_true, Bool.and_eq_true, decide_eq_true_eq] at this; exact this.1
    · simp only [hk, show ¬ (3 : Int) = 1 by decide, show ¬ (3 : Int) = 2 by decide, if_false, if_true, Bool.and_eq_true, decide_eq_true_eq] at this; exact this.1
theorem data_told {c : CnD} {f : Fr} (hf : okFr f = true) (hk : f.k = 1) : ∀ x ∈ (dataD c f).2, okFr x = true := by
  have hp := hd_parts (ok_head hf)
  have hs := stream_of hf (Or.inl hk)
  have hps := pay_size f
  have hz : ∀ d : CnD, ∀ x ∈ (grantD d 0 (f.b.size : Int)).2, okFr x = true := fun d => grant_told (by decide) (by decide) (by omega) (by omega)
  have hb : ∀ (d : CnD) (code : Int), ∀ x ∈ (grantD d 0 (f.b.size : Int)).2 ++ [(breakD (grantD d 0 (f.b.size : Int)).1 f.st code).2], okFr x = true := fun d code => app_told (hz d) (one_told (reset_fr _ hs.1 hs.2))
  unfold dataD
  dsimp only
  split
  · exact fail_told _ _
  · split
    · exact fail_told _ _
    · split
      · split
        · exact hz _
        · exact hb _ _
      · split
        · exact hb _ _
        · split
          · exact hb _ _
          · refine app_told (grant_told (by omega) hs.2 (by omega) (by omega)) (grant_told (by decide) (by decide) (by omega) (by omega))
theorem got_told {c : CnD} {f : Fr} (hf : okFr f = true) : ∀ x ∈ (gotRaw c f).2, okFr x = true := by
  have hh := ok_head hf
  have hp := hd_parts hh
  unfold gotRaw
  split
  · exact nil_told
  · split
    · unfold settleD
      split
      · exact nil_told
      · split
        · exact one_told (by decide)
        · exact fail_told _ _
    · split
      · rename_i hk
        split
        · refine one_told ?_
          unfold okFr
          dsimp only
          unfold hdOk at hh ⊢
          rw [hk] at hh
          split at hh
          · cases hh
          · rename_i hc
            have hb4 : (f.b.size : Int) = 4 := by
              simp only [show ¬ (5 : Int) = 1 by decide, show ¬ (5 : Int) = 2 by decide, show ¬ (5 : Int) = 3 by decide, show ¬ (5 : Int) = 4 by decide, if_false, if_true, Bool.and_eq_true, decide_eq_true_eq] at hh
              exact hh.2.1
            rw [hb4, if_neg (show ¬ (inB 1 0 3 = false ∨ inB 0 0 100000 = false ∨ inB 4 0 1000 = false) by decide)]
            simp
        · exact nil_told
      · split
        · exact nil_told
        · split
          · unfold windowD
            split
            · split
              · exact nil_told
              · exact fail_told _ _
            · rename_i hst
              split
              · exact fail_told _ _
              · split
                · exact nil_told
                · split
                  · exact nil_told
                  · exact one_told (reset_fr _ (by omega) hp.2.2.2.1)
          · split
            · rename_i hk
              have hs := stream_of hf (Or.inr (Or.inl hk))
              unfold headD
              split
              · dsimp only
                split
                · exact nil_told
                · split
                  · exact one_told (reset_fr _ hs.1 hs.2)
                  · split
                    · exact fail_told _ _
                    · split
                      · exact one_told (reset_fr _ hs.1 hs.2)
                      · split
                        · exact one_told (reset_fr _ hs.1 hs.2)
                        · split <;> exact nil_told
              · exact fail_told _ _
            · split
              · rename_i hk; exact data_told hf hk
              · split
                · split
                  · exact fail_told _ _
                  · exact nil_told
                · exact nil_told
end Go.Proofs.YtllaeakeaabiaaaGreat
