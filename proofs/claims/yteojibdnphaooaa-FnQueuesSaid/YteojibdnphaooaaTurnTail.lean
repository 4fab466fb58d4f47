/- Lines whose Sizes may be the tail of a list that is owned (what is left behind one that went): what they read as, what a mark of them leaves. -/
import Derived.Test.YteojibdnphaooaaShRound
import Derived.Test.YteojibdnphaooaaShape4

namespace Go.Proofs.Yteojibdnphaooaa
open Go.RowKit
set_option maxRecDepth 100000
set_option linter.unusedSimpArgs false
set_option linter.unusedVariables false
/-- v reads as L; it is a row of numbers that is owned, or what such a row has behind some elements. -/
def OwT (w : World) (v : Value) (L : List Int) (bs : List Nat) : Prop :=
  ∃ (v0 : Value) (P : List Int), OwR intS w v0 (P ++ L) bs ∧ ((v = v0 ∧ P = []) ∨ ∃ g o cap cap0, v0 = .slice (some ⟨g, 0, none⟩) (P.length + L.length) cap0 ∧ v = .slice (some ⟨g, o, none⟩) L.length cap ∧ L.length ≤ cap ∧ cap ≤ 9223372036854775807 ∧ (L ≠ [] → o = P.length))
theorem OwT.of {w : World} {v : Value} {L : List Int} {bs : List Nat} (h : OwR intS w v L bs) : OwT w v L bs := ⟨v, [], h, .inl ⟨rfl, rfl⟩⟩
theorem OwT.keep {w w' : World} {v : Value} {L : List Int} {bs : List Nat} (h : OwT w v L bs) (hs : w.heap.size ≤ w'.heap.size) (hk : ∀ b ∈ bs, w'.heap[b]? = w.heap[b]?) : OwT w' v L bs := by
  obtain ⟨v0, P, h0, h1⟩ := h
  exact ⟨v0, P, h0.keep hs hk, h1⟩
theorem OwT.lt {w : World} {v : Value} {L : List Int} {bs : List Nat} (h : OwT w v L bs) : ∀ b ∈ bs, b < w.heap.size := by
  obtain ⟨v0, P, h0, h1⟩ := h
  exact h0.lt
theorem OwT.rd {w : World} {v : Value} {L : List Int} {bs : List Nat} (h : OwT w v L bs) : RdR intS w v L := by
  obtain ⟨v0, P, h0, ⟨rfl, rfl⟩ | ⟨g, o, cap, cap0, rfl, rfl, h1, h2, h3⟩⟩ := h
  · exact h0.rd
  · obtain ⟨_, ad, c, e, _, _, hc⟩ := rd_ints h0.rd
    simp only [Value.slice.injEq] at e
    obtain ⟨rfl, e2, rfl⟩ := e
    refine ints_rd ⟨by simp [iv], some ⟨g, o, none⟩, cap, rfl, h1, by unfold maxLen; omega, fun hn => ?_⟩
    obtain ⟨b, o', e3, hb, hcc⟩ := hc (by simp; omega)
    simp only [Option.some.injEq, Addr.mk.injEq, and_true] at e3
    obtain ⟨rfl, rfl⟩ := e3
    have ho : o = P.length := h3 (by intro e; subst e; simp at hn)
    subst ho
    refine ⟨g, P.length, rfl, hb, fun j u hu => ?_⟩
    have := hcc (P.length + j) u (by rw [show iv (P ++ L) = iv P ++ iv L by simp [iv], List.getElem?_append_right (by simp [iv])]; simpa [iv] using hu)
    simpa using this
def lineT : Shp LineD where
  size := 3
  ty := 35
  rd := fun w cs d => ∃ vsz : Value, cs = [.int .i64 d.wt, .int .i64 d.left, vsz] ∧ RdR intS w vsz d.sz
  own := fun w cs d bs => ∃ (vsz : Value) (b0 : List Nat), cs = [.int .i64 d.wt, .int .i64 d.left, vsz] ∧ OwT w vsz d.sz b0 ∧ bs = b0
  pos := by decide
  rd_len := fun h => by obtain ⟨vsz, rfl, _⟩ := h; rfl
  rd_one := fun h u hu => by
    obtain ⟨vsz, rfl, h0⟩ := h
    obtain ⟨_, _, rfl, _⟩ := h0.form
    simp only [List.mem_cons, List.not_mem_nil, or_false] at hu
    rcases hu with rfl | rfl | rfl <;> rfl
  rd_new := fun h hb => by obtain ⟨vsz, rfl, h0⟩ := h; exact ⟨vsz, rfl, h0.new hb⟩
  own_rd := fun h => by obtain ⟨vsz, b0, rfl, h0, rfl⟩ := h; exact ⟨vsz, rfl, h0.rd⟩
  own_keep := fun h hs hk => by obtain ⟨vsz, b0, rfl, h0, rfl⟩ := h; exact ⟨vsz, _, rfl, h0.keep hs (fun b hb => hk b (by simp [hb])), rfl⟩
  own_lt := fun h b hb => by obtain ⟨vsz, b0, rfl, h0, rfl⟩ := h; exact h0.lt b hb
theorem OwR.tail {w : World} {v : Value} {L : List LineD} {bs : List Nat} (h : OwR lineS w v L bs) : OwR lineT w v L bs := by
  obtain ⟨ts, rfl, ho, hE, rfl⟩ := h
  refine ⟨ts, rfl, ho, fun t ht => ?_, rfl⟩
  obtain ⟨vsz, b0, e1, e2, e3⟩ := hE t ht
  exact ⟨vsz, b0, e1, OwT.of e2, e3⟩
theorem OwX.tail {w : World} {lo hi : Nat} {v : Value} {L : List LineD} (h : OwX lineS w lo hi v L) : OwX lineT w lo hi v L := by
  obtain ⟨bs, h1, h2, h3⟩ := h
  exact ⟨bs, h1.tail, h2, h3⟩
theorem RdR.tail {w : World} {v : Value} {L : List LineD} (h : RdR lineT w v L) : RdR lineS w v L := h
set_option maxHeartbeats 1000000 in
theorem markIntT (L : List Int) (k : Nat) (v : Value) (bs : List Nat) (w : World) (ho : OwT w v L bs) (hn : bs.Nodup) (hk1 : k + cntInt64S L ≤ 1000000000) :
    Calls Try.prog 60 #[v, .int .i64 k] w fun x w' => x = .returned (.int .i64 ((k + cntInt64S L : Nat) : Int)) ∧ OwT w' v (mkInt64S L k) bs ∧ TurnB bs w w' := by
  obtain ⟨v0, P, h0, ⟨rfl, rfl⟩ | ⟨g, o, cap, cap0, rfl, rfl, h1, h2, h3⟩⟩ := ho
  · exact (markInt64S L k v bs w h0 hn hk1).mono fun x w' ⟨e, e1, e2⟩ => ⟨e, OwT.of e1, e2⟩
  obtain ⟨hown, rfl⟩ := owr_ints h0
  clear h0
  unfold cntInt64S at *
  have hiv : iv (P ++ L) = iv P ++ iv L := by simp [iv]
  rw [hiv] at hown
  rw [List.length_append] at hown
  have HO := hide hown
  have H3 := hide h3
  clear hown hiv h3
  go_enter Try.func60, Try.ntmps60
  go_wp2_with fail
  go_loopw [1, 5] (fun kk i wr => ∃ (j : Nat) (ys : List Value), i = .int .i64 j ∧ kk = .int .i64 (k + j) ∧ j ≤ L.length ∧ Hid (wr.ownsRow 0 2 1 (.slice (some ⟨g, 0, none⟩) (P.length + L.length) cap0) (P.length + L.length) ys) ∧ Hid (∀ t, t < P.length + j → ys[t]? = (iv P ++ mk k L.length)[t]?) ∧ Hid (w.grownBy wr (some g))) (fun _ i _ => L.length - (intOf i).toNat)
  case atStart => exact ⟨0, _, rfl, by simp, Nat.zero_le _, HO, hide (fun t ht => by rw [List.getElem?_append_left (by simp [iv]; omega), List.getElem?_append_left (by simp [iv]; omega)]), hide (gb_refl _ _)⟩
  case round =>
    clear HO
    obtain ⟨j, ys, rfl, rfl, hj, HO, HY, HT⟩ := hrel
    by_cases hlt : j < L.length
    · have ho := H3.out (by intro e; subst e; simp at hlt)
      subst ho
      obtain ⟨g', cap', e1, e2, e3, e4, _, _, e5, e6⟩ := owns_open HO.out (by omega)
      simp only [Value.slice.injEq, Option.some.injEq, Addr.mk.injEq, and_true, true_and] at e1
      obtain ⟨rfl, rfl⟩ := e1
      have HO2 := hide (owns_set HO.out rfl (P.length + j) (.int .i64 (k + j)))
      have HX : Hid (∀ t, t < P.length + (j + 1) → (ys.set (P.length + j) (.int .i64 (k + j)))[t]? = (iv P ++ mk k L.length)[t]?) := by
        intro t ht
        rw [List.getElem?_set]
        split
        · rename_i h; subst h; rw [if_pos (by have := HO.out.1; omega), List.getElem?_append_right (by simp [iv])]; simp only [iv, List.length_map, Nat.add_sub_cancel_left]; rw [mk_get k L.length j hlt]
        · exact HY.out t (by omega)
      have hf := e6 (P.length + j)
      obtain ⟨u0, hu0⟩ : ∃ u, wr.cell? ⟨g, P.length + j, none⟩ = some u := ⟨_, e5 (P.length + j) _ (List.getElem?_eq_getElem (by have := HO.out.1; omega))⟩
      clear e5 e6 e2 e3 HO HY
      go_wp2_with fail
      go_roundw
      case rel => exact ⟨j + 1, _, by go_num, by go_num, by omega, HO2, HX, hide (gb_set HT.out _ _ rfl)⟩
      case measure => simp [intOf]; omega
    · obtain rfl : j = L.length := by omega
      have hys : ys = iv P ++ mk k L.length := List.ext_getElem? fun t => by
        by_cases ht' : t < P.length + L.length
        · exact HY.out t ht'
        · rw [List.getElem?_eq_none (by have := HO.out.1; omega), List.getElem?_eq_none (by rw [List.length_append, mk_len]; simp [iv]; omega)]
      subst hys
      go_wp2_with fail
      go_ret
      refine ⟨by first | rfl | norm_cast, ⟨_, P, ?_, .inr ⟨g, o, cap, cap0, by rw [mkInt_len], by rw [mkInt_len], by rw [mkInt_len]; exact h1, h2, fun hne => H3.out (fun e => hne (by subst e; rfl))⟩⟩, ?_⟩
      · have h5 : wr.ownsRow 0 2 1 (.slice (some ⟨g, 0, none⟩) (P.length + L.length) cap0) (P ++ mkInt64S L k).length (iv (P ++ mkInt64S L k)) := by
          rw [show iv (P ++ mkInt64S L k) = iv P ++ iv (mkInt64S L k) by simp [iv], mkInt_iv, List.length_append, mkInt_len]; exact HO.out
        exact ints_owr h5
      · exact ⟨HT.out.os, HT.out.tape, HT.out.output, HT.out.size, fun q hq hnq => HT.out.block q hq (fun c => hnq (by simp [Value.ownBlock]; exact Option.some.inj c))⟩
set_option maxHeartbeats 2000000 in
theorem markLineT (L : List LineD) (k : Nat) (v : Value) (bs : List Nat) (w : World) (ho : OwR lineT w v L bs) (hn : bs.Nodup) (hk1 : k + cntLineS L ≤ 1000000000) :
    Calls Try.prog 47 #[v, .int .i64 k] w fun x w' => x = .returned (.int .i64 ((k + cntLineS L : Nat) : Int)) ∧ OwR lineT w' v (mkLineS L k) bs ∧ TurnB bs w w' := by
  obtain ⟨ad, cap, rfl, h1, h2⟩ := ho.rd.form
  unfold cntLineS mkLineS at *
  have HO0 : Hid (OwR lineT w (.slice ad L.length cap) (mixLs mkLine cntLine L k 0) bs) := by show OwR _ _ _ _ _; rw [mix_zero]; exact ho
  clear ho
  have HN := hide hn
  clear hn
  go_enter Try.func47, Try.ntmps47
  go_wp2_with fail
  go_loopw [1, 5] (fun kk i wr => ∃ (j : Nat), i = .int .i64 j ∧ kk = .int .i64 ((k + cntLs cntLine (L.take j) : Nat) : Int) ∧ j ≤ L.length ∧ Hid (OwR lineT wr (.slice ad L.length cap) (mixLs mkLine cntLine L k j) bs) ∧ Hid (TurnB bs w wr)) (fun _ i _ => L.length - (intOf i).toNat)
  case atStart => exact ⟨0, rfl, by simp [cntLs], Nat.zero_le _, HO0, TurnB.refl _ _⟩
  case round =>
    clear HO0
    obtain ⟨j, rfl, rfl, hj, HO, HT⟩ := hrel
    by_cases hlt : j < L.length
    · have hct := cnt_take cntLine L j hlt
      have hcl := cnt_le cntLine L (j + 1)
      have hst := mix_step mkLine cntLine L k j hlt
      have hat := mix_at mkLine cntLine L k j hlt (by rw [mix_len _ _ L k j hj]; exact hlt)
      have hml := mix_len mkLine cntLine L k j hj
      obtain ⟨d, hd⟩ : ∃ d, d = L[j] := ⟨_, rfl⟩
      rw [← hd] at hct hst hat
      obtain ⟨K, hK⟩ : ∃ K : Nat, K = k + cntLs cntLine (L.take j) := ⟨_, rfl⟩
      rw [← hK] at hst ⊢
      obtain ⟨M, hM⟩ : ∃ M, M = mixLs mkLine cntLine L k j := ⟨_, rfl⟩
      rw [← hM] at hst hml
      have HO1 : Hid (OwR lineT wr (.slice ad L.length cap) M bs) := by show OwR _ _ _ _ _; rw [hM]; exact HO.out
      have HAT : Hid (∀ h : j < M.length, M[j] = d) := fun h => by subst hM; exact hat
      have hKc : K + cntLine d = k + cntLs cntLine (L.take (j + 1)) := by omega
      have HKC := hide hKc
      have hKb : K + cntLine d ≤ 1000000000 := by omega
      unfold cntLine at hKb
      have HST := hide hst
      have hjM : j < M.length := by omega
      clear hct hcl hst hat hM HO hd hK hKc
      obtain ⟨g1, c1, cs, bb, e1, hgl1, hgm, hgb, hsub, hbn, hown, hcell, hfr, _, hkeep, hsets⟩ := HO1.out.put HN.out j (by simpa using hjM)
      have eq1 : (M)[j]'(by simpa using hjM) = d := HAT.out hjM
      rw [eq1] at hown
      obtain ⟨vsz, b0, rfl, hvsz, hbb⟩ := hown
      simp only [Value.slice.injEq] at e1
      obtain ⟨rfl, -, -⟩ := e1
      obtain ⟨aq1, pq1, rfl, _⟩ := hvsz.rd.form
      have c1_0 : wr.cell? ⟨g1, j * 3, none⟩ = some (.int .i64 d.wt) := hcell 0 _ rfl
      have c1_1 : wr.cell? ⟨g1, j * 3 + 1, none⟩ = some (.int .i64 d.left) := hcell 1 _ rfl
      have c1_2 : wr.cell? ⟨g1, j * 3 + 2, none⟩ = some (.slice aq1 d.sz.length pq1) := hcell 2 _ rfl
      have HO2 : Hid (OwR lineT (setsFrom wr g1 (j * lineT.size + ([] : List Value).length) [.int .i64 ((K : Nat) : Int), .int .i64 ((K + 1 : Nat) : Int)]) _ ((M).set j ⟨((K : Nat) : Int), ((K + 1 : Nat) : Int), d.sz⟩) bs) := hsets [] [.int .i64 d.wt, .int .i64 d.left] [.slice aq1 d.sz.length pq1] [.int .i64 ((K : Nat) : Int), .int .i64 ((K + 1 : Nat) : Int)] ⟨((K : Nat) : Int), ((K + 1 : Nat) : Int), d.sz⟩ rfl rfl ⟨_, _, rfl, hvsz, hbb⟩
      have HT2 : Hid (TurnB bs w (setsFrom wr g1 (j * lineT.size + ([] : List Value).length) [.int .i64 ((K : Nat) : Int), .int .i64 ((K + 1 : Nat) : Int)])) := TurnB.setsFrom g1 hgm _ _ _ HT.out
      have f1 := hfr
      clear hcell hfr hkeep hsets hsub hbn hgb hbb eq1 hvsz
      go_wp2_with fail
      change Hid (OwR lineT ((wr.setCell ⟨g1, j * 3, none⟩ (.int .i64 ((K : Int)))).setCell ⟨g1, j * 3 + 1, none⟩ (.int .i64 ((K : Int) + 1))) _ _ _) at HO2
      change Hid (TurnB bs w ((wr.setCell ⟨g1, j * 3, none⟩ (.int .i64 ((K : Int)))).setCell ⟨g1, j * 3 + 1, none⟩ (.int .i64 ((K : Int) + 1)))) at HT2
      have cq : World.cell? ((wr.setCell ⟨g1, j * 3, none⟩ (.int .i64 ((K : Int)))).setCell ⟨g1, j * 3 + 1, none⟩ (.int .i64 ((K : Int) + 1))) ⟨g1, j * 3 + 2, none⟩ = some (.slice aq1 d.sz.length pq1) := by rw [World.cell?_setCell_other _ _ _ _ (by simp)]; rw [World.cell?_setCell_other _ _ _ _ (by simp)]; exact c1_2
      have HCQ := hide cq
      clear cq c1_0 c1_1 c1_2
      generalize ((wr.setCell ⟨g1, j * 3, none⟩ (.int .i64 ((K : Int)))).setCell ⟨g1, j * 3 + 1, none⟩ (.int .i64 ((K : Int) + 1))) = W1 at *
      obtain ⟨g2, c2, cs, bb, e1, hgl2, hgm, hgb, hsub, hbn, hown, hcell, hfr, _, hkeep, hsets⟩ := HO2.out.put HN.out j (by simpa using hjM)
      have eq2 : ((M).set j ⟨((K : Nat) : Int), ((K + 1 : Nat) : Int), d.sz⟩)[j]'(by simpa using hjM) = ⟨((K : Nat) : Int), ((K + 1 : Nat) : Int), d.sz⟩ := by simp
      rw [eq2] at hown
      obtain ⟨vsz, b0, rfl, hvsz, hbb⟩ := hown
      simp only [Value.slice.injEq, Option.some.injEq, Addr.mk.injEq] at e1
      obtain ⟨⟨rfl, -, -⟩, -, -⟩ := e1
      obtain rfl := Option.some.inj (HCQ.out.symm.trans (hcell 2 _ rfl))
      subst hbb
      have HQ := hide hvsz
      have HKE := hide hkeep
      have HSB := hide hsub
      have HBN := hide hbn
      clear hcell hkeep hsets hsub hbn hgb hvsz eq2 hfr
      have hcl := markIntT d.sz (K + 1 + 1) _ _ _ HQ.out HBN.out (by omega)
      refine (show Calls _ _ #[.slice aq1 d.sz.length pq1, .int .i64 ((K : Int) + 1 + 1)] _ _ from hcl).mono ?_
      rintro x W2 ⟨rfl, hoq, htq⟩
      have HO3 : Hid (OwR lineT W2 _ (((M).set j ⟨((K : Nat) : Int), ((K + 1 : Nat) : Int), d.sz⟩).set j ⟨((K : Nat) : Int), ((K + 1 : Nat) : Int), mkInt64S d.sz (K + 1 + 1)⟩) bs) := HKE.out W2 ⟨((K : Nat) : Int), ((K + 1 : Nat) : Int), mkInt64S d.sz (K + 1 + 1)⟩ ⟨_, _, rfl, hoq, rfl⟩ htq.size (fun x hx hnx => htq.block x (HO2.out.lt x hx) hnx)
      have HT3 : Hid (TurnB bs w W2) := HT2.out.trans (htq.wide (fun x hx => HSB.out x hx))
      clear hoq htq HKE HSB HQ HBN
      go_wp2_with fail
      refine ⟨⟨j + 1, ?_, ?_, ?_, ?_, ?_⟩, ?_⟩
      · go_num
      · exact int_eq (by have h1 := HKC.out; have h2 : cntLine d = 1 + 1 + cntInt64S d.sz := rfl; omega)
      · omega
      · show OwR _ _ _ _ _
        rw [← HST.out]
        have hfin := HO3.out
        first | exact hfin | (simp only [List.set_set] at hfin; exact hfin)
      · exact HT3.out
      · simp [intOf]; omega
    · obtain rfl : j = L.length := by omega
      rw [mix_end] at HO
      rw [List.take_length]
      go_wp2_with fail
      go_ret
      exact ⟨rfl, HO.out, HT.out⟩
set_option maxHeartbeats 1000000 in
theorem markRoundT (d : RoundD) (vls : Value) (k : Nat) (bs : List Nat) (w : World) (ho : OwR lineT w vls d.ls bs) (hn : bs.Nodup) (hk1 : k + cntLineS d.ls ≤ 1000000000) :
    Calls Try.prog 27 #[.agg #[.int .i64 d.turn, .bool d.given, vls], .int .i64 k] w fun x w' => x = .returned (.int .i64 ((k + cntLineS d.ls : Nat) : Int)) ∧ OwR lineT w' vls (mkLineS d.ls k) bs ∧ TurnB bs w w' := by
  obtain ⟨ad, cap, rfl, h1, h2⟩ := ho.rd.form
  have HO := hide ho
  clear ho
  obtain ⟨K, hK⟩ : ∃ K : Nat, K = k + cntLineS d.ls := ⟨_, rfl⟩
  rw [← hK]
  have HK := hide hK
  clear hK
  go_enter Try.func27, Try.ntmps27
  go_wp2_with fail
  have hbx : Below w.heap.size w (w.alloc (.cells #[.int .i64 d.turn, .bool d.given, .slice ad d.ls.length cap] 26)) := (Below.refl _ _).alloc (Nat.le_refl _) _
  refine (markLineT d.ls k _ bs _ (HO.out.keep hbx.size (fun b hb => hbx.block b (HO.out.lt b hb))) hn hk1).mono ?_
  rw [← HK.out]
  rintro x w1 ⟨rfl, ho1, ht1⟩
  have HO1 := hide ho1
  have HT1 := hide ((TurnB.new (bs := bs) hbx).trans ht1)
  clear ho1 ht1
  go_wp2_with fail
  go_ret
  exact ⟨rfl, HO1.out, HT1.out⟩
end Go.Proofs.Yteojibdnphaooaa
