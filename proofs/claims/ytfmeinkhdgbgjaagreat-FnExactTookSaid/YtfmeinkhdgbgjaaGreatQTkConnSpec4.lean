/- Chapter 17's model in place: given back. -/
import Derived.Test.YtfmeinkhdgbgjaaGreatQTkG21
namespace Go.Proofs.YtfmeinkhdgbgjaaGreat
open Go.RowKit
set_option maxRecDepth 100000
set_option linter.unusedSimpArgs false
set_option linter.unusedVariables false
abbrev flcs (f : FlD) (v : Value) : List Value := [.int .i64 f.id, .int .i64 f.get, .int .i64 f.give, v, .int .i64 f.tun.up.r, .string f.tun.up.b, .bool f.tun.up.e, .bool f.tun.up.k, .int .i64 f.tun.dn.r, .string f.tun.dn.b, .bool f.tun.dn.e, .bool f.tun.dn.k, .int .i64 f.tun.went, .int .i64 f.tun.came, .bool f.ended]
/-- The k-th Flow of a Conn in place, and the Conn behind a change of it that leaves its Fields. -/
theorem CnM.flw {w : World} {g : Nat} {d : CnD} {bs : List Nat} (h : CnM w g d bs) (k : Nat) (hk : k < d.flows.length) :
    ∃ gf A C ve vi vo cap v0, RowIs w g 32 (cncs d ve vi vo (.slice (some ⟨gf, 0, none⟩) d.flows.length cap)) ∧ gf ∈ bs ∧ gf < w.heap.size ∧ g ≠ gf ∧ MidIs w gf 57 A C (k * 15) (flcs d.flows[k] v0) ∧ d.flows[k].tun.up.b.size ≤ 9223372036854775807 ∧ d.flows[k].tun.dn.b.size ≤ 9223372036854775807 ∧ RdR fieldS w v0 d.flows[k].fds ∧
      ∀ w' f', f'.fds = d.flows[k].fds → f'.tun.up.b.size ≤ 9223372036854775807 → f'.tun.dn.b.size ≤ 9223372036854775807 → MidIs w' gf 57 A C (k * 15) (flcs f' v0) → TurnB [gf] w w' → CnM w' g { d with flows := d.flows.set k f' } bs := by
  obtain ⟨⟨ve, vi, vo, vf, hrow, ⟨be, bi, bo, bf, h1, h2, h3, h4, rfl⟩, hn⟩, hng⟩ := h
  have hn4 : bf.Nodup := by simp only [List.nodup_append] at hn; exact hn.2.1
  have hdis : ∀ x ∈ bf, x ∉ be ++ bi ++ bo := fun x hx hx2 => by
    rw [List.nodup_append] at hn
    exact hn.2.2 x hx2 x hx rfl
  obtain ⟨gf, cap, cs, b, A, C, rfl, hgl, hgm, hgb, hsub, hown, hmid, hA, hput⟩ := h4.mid hn4 k hk
  obtain ⟨v0, bq, rfl, f0, f1, g1, rfl⟩ := hown
  have hgg : g ≠ gf := fun e => hng (by rw [e]; simp [hgm])
  refine ⟨gf, A, C, ve, vi, vo, cap, v0, hrow, by simp [hgm], hgl, hgg, ⟨hmid, by rw [hA]; rfl⟩, f0, f1, g1.rd, ?_⟩
  intro w' f' hfe t1 t2 hm' ht
  have hk1 : ∀ x, x < w.heap.size → x ≠ gf → w'.heap[x]? = w.heap[x]? := fun x hx hne => ht.block x hx (by simpa using hne)
  have hk0 : ∀ x ∈ be ++ bi ++ bo, x ≠ gf := fun x hx e => hdis gf hgm (e ▸ hx)
  have hb0k : ∀ x ∈ b, w'.heap[x]? = w.heap[x]? := fun x hx => hk1 x (g1.lt x hx) (fun e => hgb (e ▸ hx))
  have hO := hput w' _ f' hm'.row ⟨v0, b, rfl, t1, t2, by rw [hfe]; exact g1.keep ht.size hb0k, rfl⟩ ht.size (fun x hx hne => hk1 x (h4.lt x hx) hne)
  refine ⟨⟨ve, vi, vo, .slice (some ⟨gf, 0, none⟩) d.flows.length cap, ?_, ⟨be, bi, bo, bf, h1.keep ht.size (fun x hx => hk1 x (h1.lt x hx) (hk0 x (by simp [hx]))), h2.keep ht.size (fun x hx => hk1 x (h2.lt x hx) (hk0 x (by simp [hx]))), h3.keep ht.size (fun x hx => hk1 x (h3.lt x hx) (hk0 x (by simp [hx]))), hO, rfl⟩, hn⟩, hng⟩
  exact hrow.kept (hk1 g hrow.lt hgg)
theorem CnM.setGet {w : World} {g : Nat} {d : CnD} {bs : List Nat} (h : CnM w g d bs) (n : Int) : CnM (w.setCell ⟨g, 7, none⟩ (.int .i64 n)) g { d with get := n } bs := by
  obtain ⟨⟨ve, vi, vo, vf, h1, h2⟩, h3⟩ := h
  refine ⟨⟨ve, vi, vo, vf, h1.set 7 (.int .i64 n), ?_⟩, h3⟩
  obtain ⟨hx, hn⟩ := h2.keep (w' := w.setCell ⟨g, 7, none⟩ (.int .i64 n)) (by simp) (fun b hb => Below.heap_setCell w _ _ b (fun e => h3 (by have e' : b = g := e; rw [← e']; exact hb)))
  exact ⟨hx, hn⟩
/-- A row of frames that a call told. -/
theorem frw_one (w : World) (f : Fr) : (w.alloc (.cells #[.int .i64 f.k, .int .i64 f.fl, .int .i64 f.st, .string f.b] 34)).ownsRow w.heap.size 34 4 (.slice (some ⟨w.heap.size, 0, none⟩) 1 1) 1 (fr [f]) := owns_lit w 34 4 1 #[.int .i64 f.k, .int .i64 f.fl, .int .i64 f.st, .string f.b] rfl (by omega)
theorem grant_zero {d : CnD} {id n : Int} (h : n = 0) : grantD d id n = (d, []) := by unfold grantD; rw [if_pos h]
theorem grant_conn {d : CnD} {n : Int} (h : n ≠ 0) : grantD d 0 n = ({ d with get := d.get + n }, [winFr 0 n]) := by unfold grantD; rw [if_neg h, if_pos rfl]
theorem grant_flow {d : CnD} {id n : Int} {k : Nat} (h : n ≠ 0) (hi : id ≠ 0) (ha : atE d.reg.es id = some k) (hk : k < d.flows.length) : grantD d id n = ({ d with flows := d.flows.set k { d.flows[k] with get := d.flows[k].get + n } }, [winFr id n]) := by
  unfold grantD; rw [if_neg h, if_neg hi, atFl_some ha, modify_is _ _ hk]
set_option maxHeartbeats 2000000 in
theorem grantM (g : Nat) (d : CnD) (bs : List Nat) (id n : Int) (w : World) (h : CnM w g d bs) (h0 : 0 ≤ n) (h1 : n ≤ 16777215) (hid : id = 0 ∨ ∃ k, atE d.reg.es id = some k) (hF : d.flows.length = d.reg.es.length) (h60 : d.reg.es.length ≤ 1000) (hg : -1000000000 ≤ d.get ∧ d.get ≤ 1000000000) (hfg : ∀ f ∈ d.flows, -1000000000 ≤ f.get ∧ f.get ≤ 1000000000) :
    Calls Tryz.prog 153 #[.pointer (some ⟨g, 0, none⟩), .int .i64 id, .int .i64 n] w fun x w' => ∃ v, x = .returned v ∧ CnM w' g (grantD d id n).1 bs ∧ w'.ownsRow w.heap.size 34 4 v (grantD d id n).2.length (fr (grantD d id n).2) ∧ TurnB (g :: bs) w w' := by
  have hgl := h.lt
  by_cases hn0 : n = 0
  · rw [grant_zero hn0]
    subst hn0
    have HC := hide h
    clear h
    go_enter Tryz.func153, Tryz.ntmps153
    go_wp2_with fail
    go_ret
    have hbx : Below w.heap.size w (w.alloc (.cells #[] 34)) := (Below.refl _ _).alloc (Nat.le_refl _) _
    exact ⟨_, rfl, HC.out.new hbx, owns_lit w 34 4 0 #[] rfl (by omega), TurnB.new hbx⟩
  have hnb : (n == 0) = false := by simpa using hn0
  by_cases hi : id = 0
  · subst hi
    rw [grant_conn hn0]
    have HC := hide (h.setGet (d.get + n))
    obtain ⟨⟨ve, vi, vo, vf, hrow, _⟩, _⟩ := h
    have x7 := RowIs.cell (j := 7) hrow rfl
    have xf := RowIs.frozen hrow 7
    have HT : Hid (TurnB (g :: bs) w (w.setCell ⟨g, 7, none⟩ (.int .i64 (d.get + n)))) := (TurnB.refl _ _).set _ _ (by simp)
    clear hrow hn0
    go_enter Tryz.func153, Tryz.ntmps153
    go_upto_region 7 with fail
    generalize w.setCell ⟨g, 7, none⟩ (.int .i64 (d.get + n)) = w1 at *
    clear x7 xf
    go_wp2_with fail
    refine (specBytes7 n 3 _ h0 (by omega) (by omega) (by omega)).mono ?_; rintro x w3 ⟨rfl, hb3⟩
    have HC3 := hide (HC.out.new hb3)
    have HT3 := hide (HT.out.trans (TurnB.new hb3))
    clear hb3
    go_wp2_with fail
    go_ret
    have hbx : Below w3.heap.size w3 (w3.alloc (.cells #[.int .i64 7, .int .i64 0, .int .i64 0, .string (bytV 3 n)] 34)) := (Below.refl _ _).alloc (Nat.le_refl _) _
    refine ⟨_, rfl, HC3.out.new hbx, ?_, HT3.out.trans (TurnB.new hbx)⟩
    exact owns_base (frw_one w3 (winFr 0 n)) (fun q hq => by simp [Value.ownBlock] at hq; have := HT3.out.size; omega)
  · obtain ⟨k, hat⟩ : ∃ k, atE d.reg.es id = some k := by rcases hid with e | e; exact absurd e hi; exact e
    obtain ⟨hk, _, _⟩ := atE_some hat
    have hkf : k < d.flows.length := by omega
    rw [grant_flow hn0 hi hat hkf]
    obtain ⟨b0, b1⟩ := hfg d.flows[k] (List.getElem_mem hkf)
    have hib : (id == 0) = false := by simpa using hi
    have hI : atI d.reg.es id = k := atI_some hat
    have hc := fun u v hu => specAt d.reg id v u hu
    rw [hI] at hc
    have hfle : d.flows.length ≤ 1000 := by omega
    have HC := hide h
    obtain ⟨⟨ve, vi, vo, vf, hrow, hcw⟩, _⟩ := h
    have x0 := RowIs.cell (j := 0) hrow rfl
    have x1 := RowIs.cell (j := 1) hrow rfl
    have x2 := RowIs.cell (j := 2) hrow rfl
    have HRE := hide hcw.rd.e
    clear hrow hcw hn0 hi hat hI hF h60 hid hfg hg
    go_enter Tryz.func153, Tryz.ntmps153
    go_wp2_with fail
    refine (hc _ _ HRE.out).mono ?_; clear hc
    rintro x w1 ⟨rfl, hb1⟩
    replace HC := hide (HC.out.new hb1)
    have HT : Hid (TurnB (g :: bs) w w1) := TurnB.new hb1
    clear hb1 x0 x1 x2 HRE
    obtain ⟨gf, A, C, pe, pi, po, cap, v0, hrow, hgm, hgfl, hgg, hmid, s1, s2, _, hput⟩ := HC.out.flw k hkf
    have x10 := RowIs.cell (j := 10) hrow rfl
    have c1 := MidIs.cell (j := 1) hmid rfl
    have cf := MidIs.frozen hmid (k * 15 + 1)
    have hgl1 := hrow.lt
    have hm2 := MidIs.set hmid 1 (.int .i64 (d.flows[k].get + n)) (by simp)
    have HC2 : Hid (CnM (World.drew (w1.setCell ⟨gf, k * 15 + 1, none⟩ (.int .i64 (d.flows[k].get + n)))) g { d with flows := d.flows.set k { d.flows[k] with get := d.flows[k].get + n } } bs) := hput _ { d.flows[k] with get := d.flows[k].get + n } rfl s1 s2 ⟨hm2.row, hm2.off⟩ (((TurnB.refl _ _).set _ _ (by simp)).trans (TurnB.new (Below.refl _ _).drew))
    have HT2 : Hid (TurnB (g :: bs) w (World.drew (w1.setCell ⟨gf, k * 15 + 1, none⟩ (.int .i64 (d.flows[k].get + n))))) := (HT.out.set _ _ (by simp [hgm])).trans (TurnB.new (Below.refl _ _).drew)
    clear hrow hmid hput hm2 HC
    have hws : IntKind.i64.wrap (d.flows[k].get + n) = d.flows[k].get + n := by rw [IntKind.wrap_i64]; omega
    have hki : (k : Int) < d.flows.length := by omega
    go_wp2_with fail
    refine wp_region_any (by kernel_rfl) ?_; change wpAny _ _ _ _ _ _ _ (World.drew _)
    refine wpAny_take (i := 0) (v := ?_) rfl (by kernel_rfl) (by kernel_rfl) (by kernel_rfl) (fun _ _ _ h => h) (Or.inl ⟨by rfl, ?_⟩) ?_; rotate_left; focus (intro w; go_simp; try with_reducible rfl)
    refine wpAny_take (i := 1) (v := ?_) rfl (by kernel_rfl) (by kernel_rfl) (by kernel_rfl) (fun _ _ _ h => h) (Or.inl ⟨by rfl, ?_⟩) ?_; rotate_left; focus (intro w; go_simp; try with_reducible rfl)
    refine wpAny_take (i := 2) (v := ?_) rfl (by kernel_rfl) (by kernel_rfl) (by kernel_rfl) (fun _ _ _ h => h) (Or.inl ⟨by rfl, ?_⟩) ?_; rotate_left; focus (intro w; go_simp; try with_reducible rfl)
    refine wpAny_take (i := 4) (v := ?_) rfl (by kernel_rfl) (by kernel_rfl) (by kernel_rfl) (fun _ _ _ h => h) (Or.inl ⟨by rfl, ?_⟩) ?_; rotate_left; focus (intro w; go_simp; try with_reducible rfl)
    refine wpAny_take (i := 5) (v := ?_) rfl (by kernel_rfl) (by kernel_rfl) (by kernel_rfl) (fun _ _ _ h => h) (Or.inl ⟨by rfl, ?_⟩) ?_; rotate_left; focus (intro w; go_simp; try with_reducible rfl)
    refine wpAny_take (i := 6) (v := ?_) rfl (by kernel_rfl) (by kernel_rfl) (by kernel_rfl) (fun _ _ _ h => h) (Or.inl ⟨by rfl, ?_⟩) ?_; rotate_left; focus (intro w; go_simp; try with_reducible rfl)
    refine wpAny_take (i := 7) (v := ?_) rfl (by kernel_rfl) (by kernel_rfl) (by kernel_rfl) (fun _ _ _ h => h) (Or.inl ⟨by rfl, ?_⟩) ?_; rotate_left; focus (intro w; go_simp; try with_reducible rfl)
    refine wpAny_take (i := 9) (v := ?_) rfl (by kernel_rfl) (by kernel_rfl) (by kernel_rfl) (fun _ _ _ h => h) (Or.inl ⟨by rfl, ?_⟩) ?_; rotate_left; focus (intro w; go_simp; try with_reducible rfl)
    refine wpAny_take (i := 13) (v := ?_) rfl (by kernel_rfl) (by kernel_rfl) (by kernel_rfl) (fun _ _ _ h => h) (Or.inl ⟨by rfl, ?_⟩) ?_; rotate_left; focus (intro w; go_simp; try with_reducible rfl)
    refine wpAny_ready (rs := [3, 8]) (by kernel_rfl) (by simp) ?_; refine AllReady.cons rfl (fun K hK => ?_) (AllReady.cons rfl (fun K hK => ?_) AllReady.nil)
    · go_simp; refine hK _ _ ?_; clear hK K
      refine wpAny_ready (rs := [8]) (by kernel_rfl) (by simp) ?_; refine AllReady.cons rfl (fun K hK => ?_) AllReady.nil
      go_simp; refine hK _ _ ?_; clear hK K
      refine wpAny_take (i := 10) (v := ?_) rfl (by kernel_rfl) (by kernel_rfl) (by kernel_rfl) (fun _ _ _ h => h) (Or.inl ⟨by rfl, ?_⟩) ?_; rotate_left; focus (intro w; go_simp; try with_reducible rfl)
      refine wpAny_take (i := 11) (v := ?_) rfl (by kernel_rfl) (by kernel_rfl) (by kernel_rfl) (fun _ _ _ h => h) (Or.inl ⟨by rfl, ?_⟩) ?_; rotate_left; focus (intro w; go_simp; try with_reducible rfl)
      refine wpAny_ready (rs := [12]) (by kernel_rfl) (by simp) ?_; refine AllReady.cons rfl (fun K hK => ?_) AllReady.nil
      go_simp; refine hK _ _ ?_; clear hK K
      refine wpAny_take (i := 14) (v := ?_) rfl (by kernel_rfl) (by kernel_rfl) (by kernel_rfl) (fun _ _ _ h => h) (Or.inl ⟨by rfl, ?_⟩) ?_; rotate_left; focus (intro w; go_simp; try with_reducible rfl)
      refine wpAny_take (i := 15) (v := ?_) rfl (by kernel_rfl) (by kernel_rfl) (by kernel_rfl) (fun _ _ _ h => h) (Or.inl ⟨by rfl, ?_⟩) ?_; rotate_left; focus (intro w; go_simp; try with_reducible rfl)
      refine wpAny_take (i := 16) (v := ?_) rfl (by kernel_rfl) (by kernel_rfl) (by kernel_rfl) (fun _ _ _ h => h) (Or.inl ⟨by rfl, ?_⟩) ?_; rotate_left; focus (intro w; go_simp; try with_reducible rfl)
      refine wpAny_ready (rs := [17]) (by kernel_rfl) (by simp) ?_; refine AllReady.cons rfl (fun K hK => ?_) AllReady.nil
      go_simp; refine hK _ _ ?_; clear hK K
      refine wpAny_done (by kernel_rfl) ?_ _
      generalize World.drew (w1.setCell ⟨gf, k * 15 + 1, none⟩ (.int .i64 (d.flows[k].get + n))) = w2 at *; go_wp2_with fail; refine (specBytes7 n 3 _ h0 (by omega) (by omega) (by omega)).mono ?_; rintro x w3 ⟨rfl, hb3⟩; have HC3 := hide (HC2.out.new hb3); have HT3 := hide (HT2.out.trans (TurnB.new hb3)); clear hb3; go_wp2_with fail; go_ret; have hbx : Below w3.heap.size w3 (w3.alloc (.cells #[.int .i64 7, .int .i64 0, .int .i64 id, .string (bytV 3 n)] 34)) := (Below.refl _ _).alloc (Nat.le_refl _) _; refine ⟨_, rfl, HC3.out.new hbx, ?_, HT3.out.trans (TurnB.new hbx)⟩; exact owns_base (frw_one w3 (winFr id n)) (fun q hq => by simp [Value.ownBlock] at hq; have := HT3.out.size; omega)
    · go_simp; refine hK _ _ ?_; clear hK K
      refine wpAny_take (i := 10) (v := ?_) rfl (by kernel_rfl) (by kernel_rfl) (by kernel_rfl) (fun _ _ _ h => h) (Or.inl ⟨by rfl, ?_⟩) ?_; rotate_left; focus (intro w; go_simp; try with_reducible rfl)
      refine wpAny_take (i := 11) (v := ?_) rfl (by kernel_rfl) (by kernel_rfl) (by kernel_rfl) (fun _ _ _ h => h) (Or.inl ⟨by rfl, ?_⟩) ?_; rotate_left; focus (intro w; go_simp; try with_reducible rfl)
      refine wpAny_ready (rs := [3, 12]) (by kernel_rfl) (by simp) ?_; refine AllReady.cons rfl (fun K hK => ?_) (AllReady.cons rfl (fun K hK => ?_) AllReady.nil)
      · go_simp; refine hK _ _ ?_; clear hK K
        refine wpAny_ready (rs := [12]) (by kernel_rfl) (by simp) ?_; refine AllReady.cons rfl (fun K hK => ?_) AllReady.nil
        go_simp; refine hK _ _ ?_; clear hK K
        refine wpAny_take (i := 14) (v := ?_) rfl (by kernel_rfl) (by kernel_rfl) (by kernel_rfl) (fun _ _ _ h => h) (Or.inl ⟨by rfl, ?_⟩) ?_; rotate_left; focus (intro w; go_simp; try with_reducible rfl)
        refine wpAny_take (i := 15) (v := ?_) rfl (by kernel_rfl) (by kernel_rfl) (by kernel_rfl) (fun _ _ _ h => h) (Or.inl ⟨by rfl, ?_⟩) ?_; rotate_left; focus (intro w; go_simp; try with_reducible rfl)
        refine wpAny_take (i := 16) (v := ?_) rfl (by kernel_rfl) (by kernel_rfl) (by kernel_rfl) (fun _ _ _ h => h) (Or.inl ⟨by rfl, ?_⟩) ?_; rotate_left; focus (intro w; go_simp; try with_reducible rfl)
        refine wpAny_ready (rs := [17]) (by kernel_rfl) (by simp) ?_; refine AllReady.cons rfl (fun K hK => ?_) AllReady.nil
        go_simp; refine hK _ _ ?_; clear hK K
        refine wpAny_done (by kernel_rfl) ?_ _
        generalize World.drew (w1.setCell ⟨gf, k * 15 + 1, none⟩ (.int .i64 (d.flows[k].get + n))) = w2 at *; go_wp2_with fail; refine (specBytes7 n 3 _ h0 (by omega) (by omega) (by omega)).mono ?_; rintro x w3 ⟨rfl, hb3⟩; have HC3 := hide (HC2.out.new hb3); have HT3 := hide (HT2.out.trans (TurnB.new hb3)); clear hb3; go_wp2_with fail; go_ret; have hbx : Below w3.heap.size w3 (w3.alloc (.cells #[.int .i64 7, .int .i64 0, .int .i64 id, .string (bytV 3 n)] 34)) := (Below.refl _ _).alloc (Nat.le_refl _) _; refine ⟨_, rfl, HC3.out.new hbx, ?_, HT3.out.trans (TurnB.new hbx)⟩; exact owns_base (frw_one w3 (winFr id n)) (fun q hq => by simp [Value.ownBlock] at hq; have := HT3.out.size; omega)
      · go_simp; refine hK _ _ ?_; clear hK K
        refine wpAny_take (i := 14) (v := ?_) rfl (by kernel_rfl) (by kernel_rfl) (by kernel_rfl) (fun _ _ _ h => h) (Or.inl ⟨by rfl, ?_⟩) ?_; rotate_left; focus (intro w; go_simp; try with_reducible rfl)
        refine wpAny_ready (rs := [3]) (by kernel_rfl) (by simp) ?_; refine AllReady.cons rfl (fun K hK => ?_) AllReady.nil
        go_simp; refine hK _ _ ?_; clear hK K
        refine wpAny_take (i := 15) (v := ?_) rfl (by kernel_rfl) (by kernel_rfl) (by kernel_rfl) (fun _ _ _ h => h) (Or.inl ⟨by rfl, ?_⟩) ?_; rotate_left; focus (intro w; go_simp; try with_reducible rfl)
        refine wpAny_take (i := 16) (v := ?_) rfl (by kernel_rfl) (by kernel_rfl) (by kernel_rfl) (fun _ _ _ h => h) (Or.inl ⟨by rfl, ?_⟩) ?_; rotate_left; focus (intro w; go_simp; try with_reducible rfl)
        refine wpAny_ready (rs := [17]) (by kernel_rfl) (by simp) ?_; refine AllReady.cons rfl (fun K hK => ?_) AllReady.nil
        go_simp; refine hK _ _ ?_; clear hK K
        refine wpAny_done (by kernel_rfl) ?_ _
        generalize World.drew (w1.setCell ⟨gf, k * 15 + 1, none⟩ (.int .i64 (d.flows[k].get + n))) = w2 at *; go_wp2_with fail; refine (specBytes7 n 3 _ h0 (by omega) (by omega) (by omega)).mono ?_; rintro x w3 ⟨rfl, hb3⟩; have HC3 := hide (HC2.out.new hb3); have HT3 := hide (HT2.out.trans (TurnB.new hb3)); clear hb3; go_wp2_with fail; go_ret; have hbx : Below w3.heap.size w3 (w3.alloc (.cells #[.int .i64 7, .int .i64 0, .int .i64 id, .string (bytV 3 n)] 34)) := (Below.refl _ _).alloc (Nat.le_refl _) _; refine ⟨_, rfl, HC3.out.new hbx, ?_, HT3.out.trans (TurnB.new hbx)⟩; exact owns_base (frw_one w3 (winFr id n)) (fun q hq => by simp [Value.ownBlock] at hq; have := HT3.out.size; omega)
end Go.Proofs.YtfmeinkhdgbgjaaGreat
