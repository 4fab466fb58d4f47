/- Several small texts of one level, one behind the other. -/
import Derived.Test.YtllaeakeaabiaaaGreatQG32
import Derived.Test.YtllaeakeaabiaaaGreatQG9
import Derived.Test.YtllaeakeaabiaaaGreatQBlocks6
import Derived.Deep.RegionHeld3
import Derived.Test.YtllaeakeaabiaaaGreatQG5
/- Chapter 17's model in place: a frame of settings. -/
namespace Go.Proofs.YtllaeakeaabiaaaGreat
open Go.RowKit
set_option maxRecDepth 100000
set_option linter.unusedSimpArgs false
set_option linter.unusedVariables false
/-- The first k turned so. -/
def mapTo (t : FlD → FlD) (L : List FlD) (k : Nat) : List FlD := (L.take k).map t ++ L.drop k
theorem mapTo_len (t : FlD → FlD) (L : List FlD) (k : Nat) (h : k ≤ L.length) : (mapTo t L k).length = L.length := by unfold mapTo; simp; omega
theorem mapTo_zero (t : FlD → FlD) (L : List FlD) : mapTo t L 0 = L := by simp [mapTo]
theorem mapTo_all (t : FlD → FlD) (L : List FlD) (k : Nat) (h : L.length ≤ k) : mapTo t L k = L.map t := by unfold mapTo; rw [List.take_of_length_le h, List.drop_eq_nil_of_le h, List.append_nil]
theorem mapTo_at (t : FlD → FlD) (L : List FlD) (k : Nat) (h : k < L.length) (h' : k < (mapTo t L k).length) : (mapTo t L k)[k] = L[k] := by
  have e : mapTo t L k = (L.take k).map t ++ L.drop k := rfl
  rw [List.getElem_of_eq e, List.getElem_append_right (by simp; omega)]
  simp [Nat.min_eq_left (Nat.le_of_lt h)]
theorem mapTo_step (t : FlD → FlD) (L : List FlD) (k : Nat) (h : k < L.length) : (mapTo t L k).set k (t L[k]) = mapTo t L (k + 1) := by
  unfold mapTo
  rw [List.take_succ_eq_append_getElem h, List.map_append, List.set_append_right _ _ (by simp; omega)]
  simp only [List.length_map, List.length_take, Nat.min_eq_left (Nat.le_of_lt h), Nat.sub_self, List.append_assoc, List.map_cons, List.map_nil, List.singleton_append]
  rw [List.drop_eq_getElem_cons h]
  rfl
theorem settle_none {d : CnD} {b : ByteArray} (h : b.size = 0) : settleD d b = (d, []) := by unfold settleD; rw [if_pos h]
theorem settle_no {d : CnD} {b : ByteArray} (h : b.size ≠ 0) (hm : movedAll d (numV b) = false) : settleD d b = failD d 2 := by unfold settleD; rw [if_neg h, if_neg (by rw [hm]; simp)]
theorem settle_yes {d : CnD} {b : ByteArray} (h : b.size ≠ 0) (hm : movedAll d (numV b) = true) : settleD d b = ({ d with flows := d.flows.map (fun f => { f with give := (mvV f.give d.first (numV b)).1 }), first := numV b }, [⟨4, 0, 0, ⟨#[]⟩⟩]) := by unfold settleD; rw [if_neg h, if_pos hm]
theorem moved_no {d : CnD} {n : Int} {k : Nat} (hk : k < d.flows.length) (h : (mvV d.flows[k].give d.first n).2 = false) : movedAll d n = false := by
  unfold movedAll
  exact List.all_eq_false.2 ⟨d.flows[k], List.getElem_mem hk, by rw [h]; simp⟩
theorem moved_yes {d : CnD} {n : Int} (h : ∀ j (hj : j < d.flows.length), (mvV d.flows[j].give d.first n).2 = true) : movedAll d n = true := by
  unfold movedAll
  refine List.all_eq_true.2 fun f hf => ?_
  obtain ⟨i, hi, rfl⟩ := List.mem_iff_getElem.1 hf
  exact h i hi
set_option maxHeartbeats 4000000 in
theorem settleM (g : Nat) (d : CnD) (bs : List Nat) (fk fl id : Int) (b : ByteArray) (w : World) (h : CnM w g d bs) (hok : okCn d = true) (hb : b.size ≤ maxLen) :
    Calls Tryz.prog 57 #[.pointer (some ⟨g, 0, none⟩), .agg #[.int .i64 fk, .int .i64 fl, .int .i64 id, .string b]] w (StepC w g bs (settleD d b)) := by
  obtain ⟨hlen, h60⟩ := cn_len hok
  have hfle : d.flows.length ≤ 60 := by omega
  have hgl := h.lt
  have hbW : Below w.heap.size w (w.alloc (.cells #[.int .i64 fk, .int .i64 fl, .int .i64 id, .string b] 48)) := (Below.refl _ _).alloc (Nat.le_refl _) _
  have RB := rowIs_new w 48 [.int .i64 fk, .int .i64 fl, .int .i64 id, .string b]
  have HC := hide (h.new hbW)
  have HT : Hid (TurnB (g :: bs) w (w.alloc (.cells #[.int .i64 fk, .int .i64 fl, .int .i64 id, .string b] 48))) := TurnB.new hbW
  have r3 := RB.cell (j := 3) rfl
  have rl := RB.lt
  by_cases hz : b.size = 0
  · have HW := hide (settle_none (d := d) hz)
    have hbe : b = ⟨#[]⟩ := by
      obtain ⟨⟨l⟩⟩ := b
      have hz' : l.length = 0 := hz
      cases l with
      | nil => rfl
      | cons _ _ => cases hz'
    subst hbe
    go_enter Tryz.func57, Tryz.ntmps57
    go_wp2_with fail
    go_ret
    rw [HW.out]
    exact StepC.after HT.out (NewB.refl _ _) (StepC.nothing HC.out)
  have hbne : (b.toList == ([] : List UInt8)) = false := by
    rw [ByteArray.toList_eq]
    refine beq_eq_false_iff_ne.2 fun e => hz ?_
    have : b.data.toList.length = 0 := by rw [e]; rfl
    show b.data.size = 0
    rw [← Array.length_toList]
    exact this
  have hN := fun w => specNumber b w hb
  have hMv := fun x w => (specMoved x d.first (numV b) w).mono (fun e w' ⟨h1, h2⟩ => (⟨h1, by subst h2; exact Below.refl _ _⟩ : e = Ending.returned (.tuple #[.int .i64 (mvV x d.first (numV b)).1, .bool (mvV x d.first (numV b)).2]) ∧ Below w.heap.size w w'))
  have HNO := hide (fun h => settle_no (d := d) hz h)
  have HYE := hide (fun h => settle_yes (d := d) hz h)
  obtain ⟨N, hNv⟩ : ∃ N, numV b = N := ⟨_, rfl⟩
  rw [hNv] at hN hMv HNO HYE
  clear h hbW hNv hz RB
  go_enter Tryz.func57, Tryz.ntmps57
  go_wp2_with fail
  refine (hN _).mono ?_; rintro e w1 ⟨rfl, hsame⟩; obtain rfl := hsame.symm; clear hsame
  generalize w.alloc (.cells #[.int .i64 fk, .int .i64 fl, .int .i64 id, .string b] 48) = W at *
  clear r3 rl hN
  go_wp2_with fail
  go_loopw [6] (fun i wr => ∃ k : Nat, i = .int .i64 k ∧ k ≤ d.flows.length ∧ Hid (CnM wr g d bs) ∧ Hid (TurnB (g :: bs) w wr) ∧ Hid (∀ j (hj : j < d.flows.length), j < k → (mvV d.flows[j].give d.first N).2 = true)) (fun i _ => d.flows.length - (intOf i).toNat)
  case atStart => exact ⟨0, rfl, Nat.zero_le _, HC, HT, fun j _ hj => absurd hj (Nat.not_lt_zero _)⟩
  case round =>
    clear HC HT
    obtain ⟨k, rfl, hk, HC, HT, HM⟩ := hrel
    by_cases hlt : k < d.flows.length
    · obtain ⟨gf, ve, vi, vo, cap, hrow, hgm, hgfl, hgg, c2, cf, _⟩ := HC.out.flGive k hlt
      have x10 := RowIs.cell (j := 10) hrow rfl
      have x9 := RowIs.cell (j := 9) hrow rfl
      have xl := hrow.lt
      have hkI : (k : Int) < d.flows.length := by omega
      have HK1 : Hid (k + 1 ≤ d.flows.length) := hlt
      have hmv := fun w => hMv d.flows[k].give w
      clear hrow
      go_upto_region 7 with fail
      have y10 : ∀ y : Later wr, y.w.cell? ⟨g, 10, none⟩ = some (.slice (some ⟨gf, 0, none⟩) d.flows.length cap) := fun y => (y.b.cell (p := ⟨g, 10, none⟩) xl).trans x10
      have y9 : ∀ y : Later wr, y.w.cell? ⟨g, 9, none⟩ = some (.int .i64 d.first) := fun y => (y.b.cell (p := ⟨g, 9, none⟩) xl).trans x9
      have y2 : ∀ y : Later wr, y.w.cell? ⟨gf, k * 15 + 2, none⟩ = some (.int .i64 d.flows[k].give) := fun y => (y.b.cell (p := ⟨gf, k * 15 + 2, none⟩) hgfl).trans c2
      clear x10 x9 c2 cf
      cases hq : (mvV d.flows[k].give d.first N).2
      · have HW := hide (HNO.out (moved_no hlt hq))
        rw [hq] at hmv
        clear hq
        have hne : Nonempty (Later wr) := ⟨⟨wr, Below.refl _ _⟩⟩; refine region_later (by kernel_rfl) (by kernel_rfl) ?_
        repeat (go_big_quiet_step (fail))
        go_big_quiet_want; go_big_quiet_op; refine ⟨.tuple #[.int .i64 (mvV d.flows[k].give d.first N).1, .bool false], fun y => later_calls (x := y) (hmv y.w), ?_⟩; go_big_quiet_on
        repeat (go_big_quiet_step (fail))
        refine wpQuiet_nil ?_; intro _ hw'; obtain ⟨y, hw''⟩ := hw'; subst hw''; have hby := y.b
        generalize y.w = W2 at *
        replace HC := hide (HC.out.new hby)
        replace HT := hide (HT.out.trans (TurnB.new hby))
        clear hby hne y10 y9 y2
        go_wp2_with fail
        refine (failC g d bs 2 _ HC.out (by decide) (by decide) (by omega)).mono ?_
        intro x w3 hst
        have hst2 := StepC.after HT.out (NewB.refl _ _) hst
        obtain ⟨v3, bs3, rfl, hrest⟩ := hst2
        go_wp2_with fail
        go_ret
        rw [HW.out]
        exact ⟨v3, bs3, rfl, hrest⟩
      · have HM2 : Hid (∀ j (hj : j < d.flows.length), j < k + 1 → (mvV d.flows[j].give d.first N).2 = true) := fun j hj hjk => by
          by_cases e : j = k
          · subst e; exact hq
          · exact HM.out j hj (by omega)
        rw [hq] at hmv
        clear hq
        have hne : Nonempty (Later wr) := ⟨⟨wr, Below.refl _ _⟩⟩; refine region_later (by kernel_rfl) (by kernel_rfl) ?_
        repeat (go_big_quiet_step (fail))
        go_big_quiet_want; go_big_quiet_op; refine ⟨.tuple #[.int .i64 (mvV d.flows[k].give d.first N).1, .bool true], fun y => later_calls (x := y) (hmv y.w), ?_⟩; go_big_quiet_on
        repeat (go_big_quiet_step (fail))
        refine wpQuiet_nil ?_; intro _ hw'; obtain ⟨y, hw''⟩ := hw'; subst hw''; have hby := y.b
        generalize y.w = W2 at *
        replace HC := hide (HC.out.new hby)
        replace HT := hide (HT.out.trans (TurnB.new hby))
        clear hby hne y10 y9 y2
        go_wp2_with fail
        go_roundw
        case rel => exact ⟨k + 1, by go_num, HK1.out, HC, HT, HM2⟩
        case measure => have := HK1.out; simp [intOf]; omega
    · have HW := hide (HYE.out (moved_yes fun j hj => HM.out j hj (by omega)))
      have HZ : Hid (CnM wr g { d with flows := mapTo (fun f => { f with give := (mvV f.give d.first N).1 }) d.flows 0 } bs) := by show CnM _ _ _ _; rw [mapTo_zero]; exact HC.out
      obtain ⟨⟨qe, qi, qo, qf, hrow, hcw⟩, _⟩ := HC.out
      obtain ⟨af, pf, eqf, _⟩ := hcw.rd.f.form
      subst eqf
      have x10 := RowIs.cell (j := 10) hrow rfl
      have hkI : ¬ (k : Int) < d.flows.length := by omega
      clear hrow hcw HM HNO HYE
      go_wp2_with fail
      clear x10
      go_loopw [9] (fun i wr => ∃ k : Nat, i = .int .i64 k ∧ k ≤ d.flows.length ∧ Hid (CnM wr g { d with flows := mapTo (fun f => { f with give := (mvV f.give d.first N).1 }) d.flows k } bs) ∧ Hid (TurnB (g :: bs) w wr)) (fun i _ => d.flows.length - (intOf i).toNat)
      case atStart => exact ⟨0, rfl, Nat.zero_le _, HZ, HT⟩
      case round =>
        clear HZ HT HC hk hlt hkI
        obtain ⟨j, rfl, hj, HC, HT⟩ := hrel
        have hlm := mapTo_len (fun f => { f with give := (mvV f.give d.first N).1 }) d.flows j hj
        by_cases hlt : j < d.flows.length
        · obtain ⟨gf, ve, vi, vo, cap, hrow, hgm, hgfl, hgg, c2, cf, hput⟩ := HC.out.flGive j (by rw [hlm]; exact hlt)
          dsimp only at hrow c2 hput
          have hat := mapTo_at (fun f => { f with give := (mvV f.give d.first N).1 }) d.flows j hlt (by omega)
          have hst := mapTo_step (fun f => { f with give := (mvV f.give d.first N).1 }) d.flows j hlt
          have x10 := RowIs.cell (j := 10) hrow rfl
          have x9 := RowIs.cell (j := 9) hrow rfl
          have xl := hrow.lt
          rw [hlm] at x10
          rw [hat] at c2 hput
          have hjI : (j : Int) < d.flows.length := by omega
          have HK1 : Hid (j + 1 ≤ d.flows.length) := hlt
          have hmv := fun w => hMv d.flows[j].give w
          dsimp only at x9
          have HAT := hide hat; have HST := hide hst
          have y10 : ∀ y : Later wr, y.w.cell? ⟨g, 10, none⟩ = some (.slice (some ⟨gf, 0, none⟩) d.flows.length cap) := fun y => (y.b.cell (p := ⟨g, 10, none⟩) xl).trans x10
          have y9 : ∀ y : Later wr, y.w.cell? ⟨g, 9, none⟩ = some (.int .i64 d.first) := fun y => (y.b.cell (p := ⟨g, 9, none⟩) xl).trans x9
          have y2 : ∀ y : Later wr, y.w.cell? ⟨gf, j * 15 + 2, none⟩ = some (.int .i64 d.flows[j].give) := fun y => (y.b.cell (p := ⟨gf, j * 15 + 2, none⟩) hgfl).trans c2
          clear hrow hat hst hput cf
          go_upto_region 13 with fail
          clear x10 x9 c2
          have hne : Nonempty (Later wr) := ⟨⟨wr, Below.refl _ _⟩⟩; refine region_later (by kernel_rfl) (by kernel_rfl) ?_
          repeat (go_big_quiet_step (fail))
          go_big_quiet_want; go_big_quiet_op; refine ⟨.tuple #[.int .i64 (mvV d.flows[j].give d.first N).1, .bool (mvV d.flows[j].give d.first N).2], fun y => later_calls (x := y) (hmv y.w), ?_⟩; go_big_quiet_on
          repeat (go_big_quiet_step (fail))
          refine wpQuiet_nil ?_; intro _ hw'; obtain ⟨y, hw''⟩ := hw'; subst hw''; have hby := y.b
          generalize y.w = W2 at *
          replace HC := hide (HC.out.new hby)
          replace HT := hide (HT.out.trans (TurnB.new hby))
          clear hby hne y10 y9 y2 xl
          obtain ⟨gf2, ve2, vi2, vo2, cap2, hrow, hgm2, hgfl2, hgg2, c2, cf, hput⟩ := HC.out.flGive j (by rw [hlm]; exact hlt)
          dsimp only at hrow c2 hput
          have x10 := RowIs.cell (j := 10) hrow rfl
          have xl := hrow.lt
          rw [hlm] at x10
          rw [HAT.out] at c2 hput
          obtain ⟨hc6, ht6⟩ := hput (mvV d.flows[j].give d.first N).1
          have HC6 : Hid (CnM (W2.setCell ⟨gf2, j * 15 + 2, none⟩ (.int .i64 (mvV d.flows[j].give d.first N).1)) g { d with flows := mapTo (fun f => { f with give := (mvV f.give d.first N).1 }) d.flows (j + 1) } bs) := by
            show CnM _ _ _ _
            rw [← HST.out]
            exact hc6
          have HT6 := hide (HT.out.trans ht6)
          clear hrow hput hc6 ht6 HC HT
          go_wp2_with fail
          go_roundw
          case rel => exact ⟨j + 1, by go_num, HK1.out, HC6, HT6⟩
          case measure => have := HK1.out; simp [intOf]; omega
        · have HC2 : Hid (CnM wr g { d with flows := d.flows.map (fun f => { f with give := (mvV f.give d.first N).1 }) } bs) := by
            have := HC.out
            rw [mapTo_all _ _ _ (by omega)] at this
            exact this
          obtain ⟨⟨qe, qi, qo, qf, hrow, hcw⟩, _⟩ := HC.out
          obtain ⟨af, pf, eqf, _⟩ := hcw.rd.f.form
          subst eqf
          have x10 := RowIs.cell (j := 10) hrow rfl
          have x9 := RowIs.cell (j := 9) hrow rfl
          have xf := RowIs.frozen hrow 9
          have xl := hrow.lt
          dsimp only at x10 x9
          rw [hlm] at x10
          have hjI : ¬ (j : Int) < d.flows.length := by omega
          have HC3 := hide (HC2.out.setFirst N)
          have HT3 := hide (HT.out.set ⟨g, 9, none⟩ (.int .i64 N) (by simp))
          clear hrow hcw HC HC2
          go_wp2_with fail
          go_ret
          rw [HW.out]
          exact StepC.after HT3.out (NewB.refl _ _) (StepC.one ⟨4, 0, 0, ⟨#[]⟩⟩ HC3.out)
end Go.Proofs.YtllaeakeaabiaaaGreat
/- The model's Decoded. -/
namespace Go.Proofs.YtllaeakeaabiaaaGreat
open Go.RowKit
set_option maxRecDepth 100000
set_option linter.unusedSimpArgs false
set_option linter.unusedVariables false

theorem decF_stop {room : Int} {n : Nat} {L out : List Fd} {s : ByteArray} (h : s.size = 0) : decF room n L out s = some (out, L) := by cases n <;> simp [decF, h]
theorem decF_none {room : Int} {n : Nat} {L out : List Fd} {s : ByteArray} (h0 : s.size ≠ 0) (h : (fldV L s).2 = 0 ∨ okF (fldV L s).1 = false ∨ out.length = 20) : decF room n L out s = none := by
  cases n with
  | zero => simp [decF, h0]
  | succ n => rw [decF, if_neg h0, if_pos h]
theorem decF_step {room : Int} {n : Nat} {L out : List Fd} {s : ByteArray} (h0 : s.size ≠ 0) (h1 : (fldV L s).2 ≠ 0) (h2 : okF (fldV L s).1 = true) (h3 : ¬ out.length = 20) : decF room (n + 1) L out s = decF room n (if b0 s < 128 then shr room ((fldV L s).1 :: L) else L) (out ++ [(fldV L s).1]) (s.extract (fldV L s).2.toNat s.size) := by
  rw [decF, if_neg h0, if_neg (fun h => h.elim h1 (fun h => h.elim (fun h => by rw [h2] at h; cases h) h3))]
theorem ext_size {s : ByteArray} {k : Int} (h0 : 0 ≤ k) (h1 : k ≤ s.size) : ((s.extract k.toNat s.size).size : Int) = s.size - k := by rw [ba_extract_size (Nat.le_refl _) (by omega)]; omega
theorem fld_upto (L : List Fd) (s : ByteArray) : 0 ≤ (fldV L s).2 ∧ (fldV L s).2 ≤ s.size := by
  have h7 := rd_upto s 7
  have h6 := rd_upto s 6
  have hl := rl_upto (s.extract (rdV s 6).2.toNat s.size)
  have hz := ext_size (s := s) h6.1 h6.2
  have hm := rl_upto (s.extract ((rdV s 6).2 + (rlV (s.extract (rdV s 6).2.toNat s.size)).2).toNat s.size)
  have hy := ext_size (s := s) (k := (rdV s 6).2 + (rlV (s.extract (rdV s 6).2.toNat s.size)).2) (by omega) (by omega)
  unfold fldV
  repeat' split
  all_goals (simp only; omega)
theorem getD_fine {room : Int} {L : List Fd} (n : Nat) (h : okT room L = true) : (L.getD n noF).fine := by
  rw [List.getD_eq_getElem?_getD]
  cases e : L[n]? with
  | none => exact noF_fine
  | some f => exact fine_of ((okT_parts h).2.2.1 f (List.mem_of_getElem? e))
theorem fld_fine {room : Int} {L : List Fd} (s : ByteArray) (h : okT room L = true) : (fldV L s).1.fine := by
  unfold fldV
  split
  · exact noF_fine
  · split
    · split
      · exact noF_fine
      · exact getD_fine _ h
    · split
      · exact noF_fine
      · split
        · split
          · exact noF_fine
          · split
            · exact noF_fine
            · exact ⟨(rl_upto _).2.2, (rl_upto _).2.2⟩
        · split
          · exact noF_fine
          · exact ⟨(getD_fine _ h).1, (rl_upto _).2.2⟩

theorem shr_okT {room : Int} {L : List Fd} {f : Fd} (h : okT room L = true) (hf : okF f = true) : okT room (shr room (f :: L)) = true := by
  obtain ⟨N, e, hN, _⟩ := noted_ok h hf
  simp only [notedD, h, hf, if_true, Prod.mk.injEq, true_and, and_true] at e
  rw [e]; exact hN

set_option maxRecDepth 100000 in
set_option maxHeartbeats 8000000 in
theorem specDecoded (L : List Fd) (room : Int) (v : Value) (s : ByteArray) (w : World) (hr0 : Reads w v L.length 2 (fv L)) (hf : ∀ f ∈ L, f.fine) (hs : s.size ≤ maxLen) :
    Calls Tryz.prog 104 #[.agg #[.int .i64 room, v], .string s] w fun x w' => ∃ lv v', x = .returned (.tuple #[lv, .agg #[.int .i64 (decodedD room L s).2.1.1, v'], .bool (decodedD room L s).2.2]) ∧ w'.ownsRow w.heap.size 146 2 lv (decodedD room L s).1.length (fv (decodedD room L s).1) ∧ w'.ownsRow w.heap.size 146 2 v' (decodedD room L s).2.1.2.length (fv (decodedD room L s).2.1.2) ∧ (∀ q, lv.ownBlock = some q → v'.ownBlock ≠ some q) ∧ Below w.heap.size w w' := by
  obtain ⟨D, hD⟩ : ∃ D, decodedD room L s = D := ⟨_, rfl⟩
  rw [hD]
  have HD := hide hD
  have HR := hide hr0; have HF := hide hf
  obtain ⟨ad, cap, rfl, _⟩ := hr0.2
  clear hr0 hf hD
  unfold maxLen at hs
  go_enter Tryz.func104, Tryz.ntmps104
  go_wp2_with fail
  obtain ⟨V0, hV0⟩ : ∃ V, (w.alloc (.cells #[.int .i64 room, .slice ad L.length cap] 40)).alloc (.cells #[.int .i64 0, .slice none 0 0] 40) = V := ⟨_, rfl⟩
  have HBW : Hid (Below w.heap.size w V0) := by show Below _ _ _; rw [← hV0]; exact bo_alloc ((Below.refl _ _).alloc (Nat.le_refl _) _) _
  have HX : Hid (RowIs V0 w.heap.size 40 [.int .i64 room, .slice ad L.length cap]) := by show RowIs _ _ _ _; rw [← hV0]; exact (rowIs_new w 40 [.int .i64 room, .slice ad L.length cap]).alloc _
  have HRR : Hid (RowIs V0 (w.heap.size + 1) 40 [.int .i64 0, .slice none 0 0]) := by show RowIs _ _ _ _; rw [← hV0]; simpa using rowIs_new (w.alloc (.cells #[.int .i64 room, .slice ad L.length cap] 40)) 40 [.int .i64 0, .slice none 0 0]
  have hsV0 : V0.heap.size = w.heap.size + 1 + 1 := by rw [← hV0]; simp
  rw [hV0]
  have hbE : Below V0.heap.size V0 (V0.alloc (.cells #[] 146)) := (Below.refl _ _).alloc (Nat.le_refl _) _
  have HOL : Hid ((V0.alloc (.cells #[] 146)).ownsRow V0.heap.size 146 2 (.slice (some ⟨w.heap.size + 1 + 1, 0, none⟩) 0 0) 0 (fv [])) := by show World.ownsRow _ _ _ _ _ _ _; rw [← hsV0]; exact owns_none V0 146
  replace HX := hide (HX.out.new hbE); replace HRR := hide (HRR.out.new hbE); replace HBW := hide (bchain HBW.out hbE)
  have hzE : (V0.alloc (.cells #[] 146)).heap.size = w.heap.size + 1 + 1 + 1 := by simp [hsV0]
  clear hV0 hbE
  generalize V0.alloc (.cells #[] 146) = V at *
  refine (specTOk L room _ _ (HR.out.new HBW.out) HF.out).mono ?_; rintro x w1 ⟨rfl, hb1⟩
  replace HX := hide (HX.out.new hb1); replace HRR := hide (HRR.out.new hb1); replace HBW := hide (bchain HBW.out hb1)
  replace HOL := hide (owns_new HOL.out hb1)
  have hz1 := hb1.size
  clear hb1
  cases hok : okT room L
  · have HDD : Hid (D = ([], (0, []), false)) := by show _ = _; rw [← HD.out]; simp [decodedD, hok]
    have r0 := HRR.out.cell (j := 0) rfl
    have r1 := HRR.out.cell (j := 1) rfl
    have r2 := HRR.out.frozen 0
    have r3 := HRR.out.frozen 1
    go_wp2_with fail
    refine bodyPost_ret (v := (.tuple #[.slice (some ⟨w.heap.size + 1 + 1, 0, none⟩) 0 0, .agg #[.int .i64 0, .slice none 0 0], .bool false])) (by simp [results, Tryz.results104, go_sem, *]) rfl ?_
    rw [HDD.out]
    have hbw := HBW.out
    have hsz := HBW.out.size
    exact ⟨_, _, rfl, owns_base (owns_apart (owns_apart HOL.out ⟨w.heap.size + 1, 0, none⟩ _ (fun e => by simp [Value.ownBlock] at e)) ⟨w.heap.size + 1, 1, none⟩ _ (fun e => by simp [Value.ownBlock] at e)) (fun k hk => by simp [Value.ownBlock] at hk; omega), own_nil _ _ _, fun q hq => by simp [Value.ownBlock], (by repeat' (first | (with_reducible exact hbw) | (with_reducible refine Below.setCell ?_ ?_ _) | (with_reducible refine Below.alloc ?_ ?_ _) | (with_reducible refine Below.drew ?_) | (with_reducible refine bo_drewN _ ?_) | omega | (simp; done) | (simp; omega)))⟩
  have hLl := (okT_parts hok).2.2.2.2
  have hdd : D = (match decF room s.size L [] s with | some (out, M) => if (encL room L out).1 = s then (out, (room, M), true) else ([], (room, L), false) | none => ([], (room, L), false)) := by rw [← HD.out]; unfold decodedD; rw [if_pos hok]; cases decF room s.size L [] s with | none => rfl | some X => rfl
  obtain ⟨R, hRR⟩ : ∃ R, decF room s.size L [] s = R := ⟨_, rfl⟩
  rw [hRR] at hdd
  have HDB := hide hdd; have HREL := hide hRR
  clear hdd hRR
  have x0 := HX.out.cell (j := 0) rfl
  have x1 := HX.out.cell (j := 1) rfl
  go_wp2_with fail
  refine (copy1 L room _ _ (HR.out.new HBW.out) (by omega)).mono ?_; rintro x w2 ⟨v2, rfl, ho2, hb2⟩
  clear x0 x1
  obtain ⟨a2, p2, rfl, _⟩ := owns_form ho2
  replace HX := hide (HX.out.new hb2); replace HRR := hide (HRR.out.new hb2); replace HBW := hide (bchain HBW.out hb2)
  replace HOL := hide (owns_new HOL.out hb2)
  have hz2 := hb2.size
  obtain ⟨V1, hV1⟩ : ∃ V1, w2.alloc (.cells #[.int .i64 room, .slice a2 L.length p2] 40) = V1 := ⟨_, rfl⟩
  have hbV : Below w2.heap.size w2 V1 := by rw [← hV1]; exact (Below.refl _ _).alloc (Nat.le_refl _) _
  have H8 : Hid (RowIs V1 w2.heap.size 40 [.int .i64 room, .slice a2 L.length p2]) := by show RowIs _ _ _ _; rw [← hV1]; exact rowIs_new w2 _ _
  have NE8 : Hid (∀ q, (Value.slice a2 L.length p2).ownBlock = some q → w1.heap.size ≤ q ∧ q < w2.heap.size) := ho2.lt
  have HO := hide (owns_base (base' := w.heap.size) (owns_new ho2 hbV) (fun k hk => by have := (ho2.lt k hk).1; omega))
  replace HX := hide (HX.out.new hbV); replace HRR := hide (HRR.out.new hbV); replace HBW := hide (bchain HBW.out hbV)
  replace HOL := hide (owns_new HOL.out hbV)
  have hz8 := H8.out.lt
  clear hb2 hbV ho2
  go_wp2_with fail
  clear hV1
  go_loopw [7, 9] (fun lst rest wr => ∃ (n : Nat) (M out : List Fd) (t : ByteArray) (a : Option Addr) (p : Nat) (la : Option Addr) (lp : Nat), lst = .slice la out.length lp ∧ rest = .string t ∧ t.size ≤ n ∧ n ≤ s.size ∧ out.length ≤ 20 ∧ (∀ f ∈ out, okF f = true) ∧ okT room M = true ∧ decF room n M out t = R ∧ RowIs wr w2.heap.size 40 [.int .i64 room, .slice a M.length p] ∧ wr.ownsRow w.heap.size 146 2 (.slice a M.length p) M.length (fv M) ∧ wr.ownsRow (w.heap.size + 1 + 1) 146 2 (.slice la out.length lp) out.length (fv out) ∧ (∀ q, (Value.slice a M.length p).ownBlock = some q → w.heap.size + 1 < q ∧ q ≠ w2.heap.size ∧ (Value.slice la out.length lp).ownBlock ≠ some q) ∧ (Value.slice la out.length lp).ownBlock ≠ some w2.heap.size ∧ RowIs wr w.heap.size 40 [.int .i64 room, .slice ad L.length cap] ∧ RowIs wr (w.heap.size + 1) 40 [.int .i64 0, .slice none 0 0] ∧ Below w.heap.size w wr) (fun _ rest _ => strLen rest)
  case atStart => exact ⟨s.size, L, [], s, a2, p2, _, _, rfl, rfl, Nat.le_refl _, Nat.le_refl _, by simp, fun f hf => by simp at hf, hok, HREL.out, H8.out, HO.out, owns_base HOL.out (fun k hk => by have := (HOL.out.lt k hk).1; omega), fun q hq => ⟨by have := NE8.out q hq; omega, by have := NE8.out q hq; omega, by simp [Value.ownBlock]; have := NE8.out q hq; omega⟩, by simp [Value.ownBlock]; omega, HX.out, HRR.out, HBW.out⟩
  case round =>
    clear HX HO HRR HBW HREL H8 HOL
    obtain ⟨n, M, out, t, a, p, la, lp, rfl, rfl, htn, hns, h20, hall, hokM, hrec, hx8, ho, hol, hne, hnl, hx, hrr, hbw⟩ := hrel
    have H8 := hide hx8; have HO := hide ho; have HOL := hide hol; have HNE := hide hne; have HNL := hide hnl; have HX := hide hx; have HRR := hide hrr; have HBW := hide hbw; have HREC := hide hrec; have HOKM := hide hokM; have HALL := hide hall
    have hMl := (okT_parts hokM).2.2.2.2
    clear hx8 ho hol hne hnl hx hrr hbw hrec hokM hall
    have hwr := HBW.out.size
    have hw2r := H8.out.lt
    by_cases ht0 : t.size = 0
    · have hRD := HREC.out
      rw [decF_stop ht0] at hRD
      have hdd := HDB.out
      rw [← hRD] at hdd
      simp only at hdd
      have HDC := hide hdd
      have htb := ba_empty ht0
      subst htb
      clear hRD hdd HDB
      have x0 := HX.out.cell (j := 0) rfl
      have x1 := HX.out.cell (j := 1) rfl
      go_wp2_with fail
      refine (copy1 L room _ _ (HR.out.new HBW.out) (by omega)).mono ?_; rintro x w5 ⟨v5, rfl, ho5, hb5⟩
      clear x0 x1
      obtain ⟨a5, p5, rfl, _⟩ := owns_form ho5
      have HLT := hide (HOL.out.lt)
      have HLT8 := hide (HO.out.lt)
      replace HX := hide (HX.out.new hb5); replace HRR := hide (HRR.out.new hb5); replace HBW := hide (bchain HBW.out hb5)
      replace HOL := hide (owns_new HOL.out hb5)
      replace H8 := hide (H8.out.new hb5); replace HO := hide (owns_new HO.out hb5)
      have hz5 := hb5.size
      obtain ⟨V5, hV5⟩ : ∃ V1, w5.alloc (.cells #[.int .i64 room, .slice a5 L.length p5] 40) = V1 := ⟨_, rfl⟩
      have hbV : Below w5.heap.size w5 V5 := by rw [← hV5]; exact (Below.refl _ _).alloc (Nat.le_refl _) _
      have HT : Hid (TabAt V5 w5.heap.size wr.heap.size room L) := by show TabAt _ _ _ _ _; rw [← hV5]; exact tabAt_new ho5
      replace HX := hide (HX.out.new hbV); replace HRR := hide (HRR.out.new hbV); replace HBW := hide (bchain HBW.out hbV)
      replace HOL := hide (owns_new HOL.out hbV)
      replace H8 := hide (H8.out.new hbV); replace HO := hide (owns_new HO.out hbV)
      have hz55 := hbV.size
      clear hb5 hbV ho5
      go_wp2_with fail
      clear hV5
      refine (encode1 w5.heap.size wr.heap.size room L out _ _ HT.out hok HALL.out h20 (reads_of_owns HOL.out) (fun _ k hk => by have := (HLT.out k hk).2; omega) (by omega)).mono ?_; rintro x w6 ⟨rfl, _, ht6⟩
      clear HT
      replace HX := hide (HX.out.kept (ht6.block _ HX.out.lt (by omega))); replace HRR := hide (HRR.out.kept (ht6.block _ HRR.out.lt (by omega))); replace H8 := hide (H8.out.kept (ht6.block _ H8.out.lt (by omega)))
      replace HBW := hide (HBW.out.trans (ht6.below (by omega) HBW.out.size))
      replace HO := hide (owns_turn HO.out ht6 (fun k hk => by have := (HLT8.out k hk).2; omega)); replace HOL := hide (owns_turn HOL.out ht6 (fun k hk => by have := (HLT.out k hk).2; omega))
      have hz6 := ht6.size
      clear ht6
      by_cases hes : (encL room L out).1 = s
      · have HDD : Hid (D = (out, (room, M), true)) := by show _ = _; rw [HDC.out, if_pos hes]
        have x0 := H8.out.cell (j := 0) rfl
        have x1 := H8.out.cell (j := 1) rfl
        have r0 := HRR.out.cell (j := 0) rfl
        have r1 := HRR.out.cell (j := 1) rfl
        have r2 := HRR.out.frozen 0
        have r3 := HRR.out.frozen 1
        have hne9 : ¬ w.heap.size + 1 = w2.heap.size := by omega
        rw [hes]
        clear hes HDC
        go_wp2_with fail
        go_region_with (fail)
        all_goals (go_wp2_with fail)
        all_goals (refine bodyPost_ret (v := (.tuple #[.slice la out.length lp, .agg #[.int .i64 room, .slice a M.length p], .bool true])) (by simp [results, Tryz.results104, go_sem, *]) rfl ?_)
        all_goals (rw [HDD.out]; refine ⟨_, _, rfl, owns_base (owns_apart (owns_apart (owns_kept HOL.out (fun k hk _ => rfl)) _ _ (fun e => by have := (HLT.out (w.heap.size + 1) e).1; omega)) _ _ (fun e => by have := (HLT.out (w.heap.size + 1) e).1; omega)) (fun k hk => by have := (HLT.out k hk).1; omega), owns_apart (owns_apart (owns_kept HO.out (fun k hk _ => rfl)) _ _ (fun e => by have := (HNE.out (w.heap.size + 1) e).1; omega)) _ _ (fun e => by have := (HNE.out (w.heap.size + 1) e).1; omega), fun q hq e => (HNE.out q e).2.2 hq, Below.setCell (Below.setCell HBW.out.drew (show w.heap.size ≤ w.heap.size + 1 by omega) _) (show w.heap.size ≤ w.heap.size + 1 by omega) _⟩)
      · have HDD : Hid (D = ([], (room, L), false)) := by show _ = _; rw [HDC.out, if_neg hes]
        have hte := tl_ne hes
        have hzz := HBW.out.size
        generalize (encL room L out).1 = es at *
        clear HDC
        go_upto_region 16 with fail
        have x0 := HX.out.cell (j := 0) rfl
        have x1 := HX.out.cell (j := 1) rfl
        have hlxx := HX.out.lt
        have hlrr := HRR.out.lt
        go_wp2_with fail
        have hbE : Below w6.heap.size w6 (w6.alloc (.cells #[] 146)) := (Below.refl _ _).alloc (Nat.le_refl _) _
        have HOE := hide (owns_none w6 146)
        replace HX := hide (HX.out.new hbE); replace HRR := hide (HRR.out.new hbE); replace HBW := hide (bchain HBW.out hbE)
        have hzE := hbE.size
        have hzE2 : (w6.alloc (.cells #[] 146)).heap.size = w6.heap.size + 1 := by simp
        clear hbE x0 x1
        refine (copy1 L room _ _ (HR.out.new HBW.out) (by omega)).mono ?_; rintro x wf ⟨vf, rfl, hof, hbf⟩
        obtain ⟨af, pf, rfl, _⟩ := owns_form hof
        replace HX := hide (HX.out.new hbf); replace HRR := hide (HRR.out.new hbf); replace HBW := hide (bchain HBW.out hbf)
        replace HOE := hide (owns_new HOE.out hbf)
        have NEF : Hid (∀ q, (Value.slice af L.length pf).ownBlock = some q → w6.heap.size < q) := fun q hq => by have := (hof.lt q hq).1; omega
        have HOF := hide hof
        clear hbf hof
        have r0 := HRR.out.cell (j := 0) rfl
        have r1 := HRR.out.cell (j := 1) rfl
        have r2 := HRR.out.frozen 0
        have r3 := HRR.out.frozen 1
        go_wp2_with fail
        refine bodyPost_ret (v := (.tuple #[.slice (some ⟨w6.heap.size, 0, none⟩) 0 0, .agg #[.int .i64 room, .slice af L.length pf], .bool false])) (by simp [results, Tryz.results104, go_sem, *]) rfl ?_
        rw [HDD.out]
        refine ⟨_, _, rfl, owns_base (owns_apart (owns_apart HOE.out ⟨w.heap.size + 1, 0, none⟩ _ (fun e => by simp [Value.ownBlock] at e; omega)) ⟨w.heap.size + 1, 1, none⟩ _ (fun e => by simp [Value.ownBlock] at e; omega)) (fun k hk => by simp [Value.ownBlock] at hk; omega), owns_base (owns_apart (owns_apart HOF.out _ _ (fun e => by have := NEF.out _ e; simp at this; omega)) _ _ (fun e => by have := NEF.out _ e; simp at this; omega)) (fun k hk => by have := NEF.out k hk; omega), fun q hq e => by have := NEF.out q e; simp [Value.ownBlock] at hq; omega, Below.setCell (Below.setCell HBW.out (show w.heap.size ≤ w.heap.size + 1 by omega) _) (show w.heap.size ≤ w.heap.size + 1 by omega) _⟩
    have htp : 0 < t.size := by omega
    have hte := list_ne htp
    have hte2 := list_isEmpty htp
    have htm : t.size ≤ maxLen := by unfold maxLen; omega
    have HFIN := hide (fld_fine t HOKM.out)
    have hup := fld_upto M t
    obtain ⟨⟨f, k⟩, hff⟩ : ∃ F, fldV M t = F := ⟨_, rfl⟩
    rw [hff] at HFIN hup
    simp only at HFIN hup
    obtain ⟨k0, k1⟩ := hup
    have x0 := H8.out.cell (j := 0) rfl
    have x1 := H8.out.cell (j := 1) rfl
    go_wp2_with fail
    have hcl := field1 M room _ t _ (reads_of_owns HO.out) hMl htm
    rw [hff] at hcl
    refine hcl.mono ?_; clear hcl; rintro x w4 ⟨rfl, hb4⟩
    clear x0 x1
    have HLT := hide (HOL.out.lt)
    have HLT8 := hide (HO.out.lt)
    replace HX := hide (HX.out.new hb4); replace HRR := hide (HRR.out.new hb4); replace HBW := hide (bchain HBW.out hb4)
    replace HOL := hide (owns_new HOL.out hb4)
    replace H8 := hide (H8.out.new hb4); replace HO := hide (owns_new HO.out hb4)
    have hz4 := hb4.size
    obtain ⟨V4, hV4⟩ : ∃ V, w4.alloc (.cells #[.string f.n, .string f.v] 146) = V := ⟨_, rfl⟩
    have hbV : Below w4.heap.size w4 V4 := by rw [← hV4]; exact (Below.refl _ _).alloc (Nat.le_refl _) _
    have HFB : Hid (RowIs V4 w4.heap.size 146 [.string f.n, .string f.v]) := by show RowIs _ _ _ _; rw [← hV4]; exact rowIs_new w4 _ _
    replace HX := hide (HX.out.new hbV); replace HRR := hide (HRR.out.new hbV); replace HBW := hide (bchain HBW.out hbV)
    replace HOL := hide (owns_new HOL.out hbV)
    replace H8 := hide (H8.out.new hbV); replace HO := hide (owns_new HO.out hbV)
    have hzV4 := HFB.out.lt
    clear hb4 hbV
    by_cases hk0 : k = 0
    · have HDD : Hid (D = ([], (room, L), false)) := by
        have h := HDB.out
        rw [← HREC.out, decF_none ht0 (.inl (by rw [hff]; exact hk0))] at h
        exact h
      subst hk0
      go_upto_region 9 with fail
      clear hV4
      have x0 := HX.out.cell (j := 0) rfl
      have x1 := HX.out.cell (j := 1) rfl
      have hlxx := HX.out.lt
      have hlrr := HRR.out.lt
      go_wp2_with fail
      have hbE : Below V4.heap.size V4 (V4.alloc (.cells #[] 146)) := (Below.refl _ _).alloc (Nat.le_refl _) _
      have HOE := hide (owns_none V4 146)
      replace HX := hide (HX.out.new hbE); replace HRR := hide (HRR.out.new hbE); replace HBW := hide (bchain HBW.out hbE)
      have hzE := hbE.size
      have hzE2 : (V4.alloc (.cells #[] 146)).heap.size = V4.heap.size + 1 := by simp
      clear hbE x0 x1
      refine (copy1 L room _ _ (HR.out.new HBW.out) (by omega)).mono ?_; rintro x wf ⟨vf, rfl, hof, hbf⟩
      obtain ⟨af, pf, rfl, _⟩ := owns_form hof
      replace HX := hide (HX.out.new hbf); replace HRR := hide (HRR.out.new hbf); replace HBW := hide (bchain HBW.out hbf)
      replace HOE := hide (owns_new HOE.out hbf)
      have NEF : Hid (∀ q, (Value.slice af L.length pf).ownBlock = some q → V4.heap.size < q) := fun q hq => by have := (hof.lt q hq).1; omega
      have HOF := hide hof
      clear hbf hof
      have r0 := HRR.out.cell (j := 0) rfl
      have r1 := HRR.out.cell (j := 1) rfl
      have r2 := HRR.out.frozen 0
      have r3 := HRR.out.frozen 1
      go_wp2_with fail
      refine bodyPost_ret (v := (.tuple #[.slice (some ⟨V4.heap.size, 0, none⟩) 0 0, .agg #[.int .i64 room, .slice af L.length pf], .bool false])) (by simp [results, Tryz.results104, go_sem, *]) rfl ?_
      rw [HDD.out]
      refine ⟨_, _, rfl, owns_base (owns_apart (owns_apart HOE.out ⟨w.heap.size + 1, 0, none⟩ _ (fun e => by simp [Value.ownBlock] at e; omega)) ⟨w.heap.size + 1, 1, none⟩ _ (fun e => by simp [Value.ownBlock] at e; omega)) (fun k hk => by simp [Value.ownBlock] at hk; omega), owns_base (owns_apart (owns_apart HOF.out _ _ (fun e => by have := NEF.out _ e; simp at this; omega)) _ _ (fun e => by have := NEF.out _ e; simp at this; omega)) (fun k hk => by have := NEF.out k hk; omega), fun q hq e => by have := NEF.out q e; simp [Value.ownBlock] at hq; omega, Below.setCell (Below.setCell HBW.out (show w.heap.size ≤ w.heap.size + 1 by omega) _) (show w.heap.size ≤ w.heap.size + 1 by omega) _⟩
    have hkb : (k == 0) = false := by simp [hk0]
    have y0 := HFB.out.cell (j := 0) rfl
    have y1 := HFB.out.cell (j := 1) rfl
    cases hokf : okF f
    · have HDD : Hid (D = ([], (room, L), false)) := by
        have h := HDB.out
        rw [← HREC.out, decF_none ht0 (.inr (.inl (by rw [hff]; exact hokf)))] at h
        exact h
      go_wp2_with fail
      clear hV4
      refine (specField f _ HFIN.out).mono ?_; rw [hokf]; rintro x w5 ⟨rfl, hb5⟩
      replace HX := hide (HX.out.new hb5); replace HRR := hide (HRR.out.new hb5); replace HBW := hide (bchain HBW.out hb5)
      have hz5 := hb5.size
      clear hb5 y0 y1
      go_upto_region 9 with fail
      have x0 := HX.out.cell (j := 0) rfl
      have x1 := HX.out.cell (j := 1) rfl
      have hlxx := HX.out.lt
      have hlrr := HRR.out.lt
      go_wp2_with fail
      have hbE : Below w5.heap.size w5 (w5.alloc (.cells #[] 146)) := (Below.refl _ _).alloc (Nat.le_refl _) _
      have HOE := hide (owns_none w5 146)
      replace HX := hide (HX.out.new hbE); replace HRR := hide (HRR.out.new hbE); replace HBW := hide (bchain HBW.out hbE)
      have hzE := hbE.size
      have hzE2 : (w5.alloc (.cells #[] 146)).heap.size = w5.heap.size + 1 := by simp
      clear hbE x0 x1
      refine (copy1 L room _ _ (HR.out.new HBW.out) (by omega)).mono ?_; rintro x wf ⟨vf, rfl, hof, hbf⟩
      obtain ⟨af, pf, rfl, _⟩ := owns_form hof
      replace HX := hide (HX.out.new hbf); replace HRR := hide (HRR.out.new hbf); replace HBW := hide (bchain HBW.out hbf)
      replace HOE := hide (owns_new HOE.out hbf)
      have NEF : Hid (∀ q, (Value.slice af L.length pf).ownBlock = some q → w5.heap.size < q) := fun q hq => by have := (hof.lt q hq).1; omega
      have HOF := hide hof
      clear hbf hof
      have r0 := HRR.out.cell (j := 0) rfl
      have r1 := HRR.out.cell (j := 1) rfl
      have r2 := HRR.out.frozen 0
      have r3 := HRR.out.frozen 1
      go_wp2_with fail
      refine bodyPost_ret (v := (.tuple #[.slice (some ⟨w5.heap.size, 0, none⟩) 0 0, .agg #[.int .i64 room, .slice af L.length pf], .bool false])) (by simp [results, Tryz.results104, go_sem, *]) rfl ?_
      rw [HDD.out]
      refine ⟨_, _, rfl, owns_base (owns_apart (owns_apart HOE.out ⟨w.heap.size + 1, 0, none⟩ _ (fun e => by simp [Value.ownBlock] at e; omega)) ⟨w.heap.size + 1, 1, none⟩ _ (fun e => by simp [Value.ownBlock] at e; omega)) (fun k hk => by simp [Value.ownBlock] at hk; omega), owns_base (owns_apart (owns_apart HOF.out _ _ (fun e => by have := NEF.out _ e; simp at this; omega)) _ _ (fun e => by have := NEF.out _ e; simp at this; omega)) (fun k hk => by have := NEF.out k hk; omega), fun q hq e => by have := NEF.out q e; simp [Value.ownBlock] at hq; omega, Below.setCell (Below.setCell HBW.out (show w.heap.size ≤ w.heap.size + 1 by omega) _) (show w.heap.size ≤ w.heap.size + 1 by omega) _⟩
    by_cases hl20 : (out.length : Int) = 20
    · have hlb : ((out.length : Int) == 20) = true := by simp [hl20]
      have HDD : Hid (D = ([], (room, L), false)) := by
        have h := HDB.out
        rw [← HREC.out, decF_none ht0 (.inr (.inr (by omega)))] at h
        exact h
      go_wp2_with fail
      clear hV4
      refine (specField f _ HFIN.out).mono ?_; rw [hokf]; rintro x w5 ⟨rfl, hb5⟩
      replace HX := hide (HX.out.new hb5); replace HRR := hide (HRR.out.new hb5); replace HBW := hide (bchain HBW.out hb5)
      have hz5 := hb5.size
      clear hb5 y0 y1
      go_upto_region 9 with fail
      have x0 := HX.out.cell (j := 0) rfl
      have x1 := HX.out.cell (j := 1) rfl
      have hlxx := HX.out.lt
      have hlrr := HRR.out.lt
      go_wp2_with fail
      have hbE : Below w5.heap.size w5 (w5.alloc (.cells #[] 146)) := (Below.refl _ _).alloc (Nat.le_refl _) _
      have HOE := hide (owns_none w5 146)
      replace HX := hide (HX.out.new hbE); replace HRR := hide (HRR.out.new hbE); replace HBW := hide (bchain HBW.out hbE)
      have hzE := hbE.size
      have hzE2 : (w5.alloc (.cells #[] 146)).heap.size = w5.heap.size + 1 := by simp
      clear hbE x0 x1
      refine (copy1 L room _ _ (HR.out.new HBW.out) (by omega)).mono ?_; rintro x wf ⟨vf, rfl, hof, hbf⟩
      obtain ⟨af, pf, rfl, _⟩ := owns_form hof
      replace HX := hide (HX.out.new hbf); replace HRR := hide (HRR.out.new hbf); replace HBW := hide (bchain HBW.out hbf)
      replace HOE := hide (owns_new HOE.out hbf)
      have NEF : Hid (∀ q, (Value.slice af L.length pf).ownBlock = some q → w5.heap.size < q) := fun q hq => by have := (hof.lt q hq).1; omega
      have HOF := hide hof
      clear hbf hof
      have r0 := HRR.out.cell (j := 0) rfl
      have r1 := HRR.out.cell (j := 1) rfl
      have r2 := HRR.out.frozen 0
      have r3 := HRR.out.frozen 1
      go_wp2_with fail
      refine bodyPost_ret (v := (.tuple #[.slice (some ⟨w5.heap.size, 0, none⟩) 0 0, .agg #[.int .i64 room, .slice af L.length pf], .bool false])) (by simp [results, Tryz.results104, go_sem, *]) rfl ?_
      rw [HDD.out]
      refine ⟨_, _, rfl, owns_base (owns_apart (owns_apart HOE.out ⟨w.heap.size + 1, 0, none⟩ _ (fun e => by simp [Value.ownBlock] at e; omega)) ⟨w.heap.size + 1, 1, none⟩ _ (fun e => by simp [Value.ownBlock] at e; omega)) (fun k hk => by simp [Value.ownBlock] at hk; omega), owns_base (owns_apart (owns_apart HOF.out _ _ (fun e => by have := NEF.out _ e; simp at this; omega)) _ _ (fun e => by have := NEF.out _ e; simp at this; omega)) (fun k hk => by have := NEF.out k hk; omega), fun q hq e => by have := NEF.out q e; simp [Value.ownBlock] at hq; omega, Below.setCell (Below.setCell HBW.out (show w.heap.size ≤ w.heap.size + 1 by omega) _) (show w.heap.size ≤ w.heap.size + 1 by omega) _⟩
    have hl20' : ¬ out.length = 20 := by omega
    have hlb : ((out.length : Int) == 20) = false := by simp; omega
    go_wp2_with fail
    clear hV4
    refine (specField f _ HFIN.out).mono ?_; rw [hokf]; rintro x w5 ⟨rfl, hb5⟩
    replace HX := hide (HX.out.new hb5); replace HRR := hide (HRR.out.new hb5); replace HBW := hide (bchain HBW.out hb5)
    replace HOL := hide (owns_new HOL.out hb5)
    replace H8 := hide (H8.out.new hb5); replace HO := hide (owns_new HO.out hb5)
    replace HFB := hide (HFB.out.new hb5)
    have hz5 := hb5.size
    clear hb5 y0 y1
    go_upto_region 10 with fail
    have y0 := HFB.out.cell (j := 0) rfl
    have y1 := HFB.out.cell (j := 1) rfl
    have hbX : Below w5.heap.size w5 (w5.alloc (.cells #[.string f.n, .string f.v] 146)) := (Below.refl _ _).alloc (Nat.le_refl _) _
    have hRd := reads_of_owns (owns_two w5 146 f)
    replace HX := hide (HX.out.new hbX); replace HRR := hide (HRR.out.new hbX); replace HBW := hide (bchain HBW.out hbX)
    replace HOL := hide (owns_new HOL.out hbX)
    replace H8 := hide (H8.out.new hbX); replace HO := hide (owns_new HO.out hbX)
    replace HFB := hide (HFB.out.new hbX)
    have hzX := hbX.size
    clear hbX
    go_wp2_with (at_builtin; refine wpList_app _ (by rfl) _ _ 38 (by rfl) 146 (.agg #[.string ⟨#[]⟩, .string ⟨#[]⟩]) 2 32 Tryz.underlying38 (by kernel_rfl) rfl (by decide) (w.heap.size + 1 + 1) _ out.length (fv out) (by rfl) HOL.out _ 1 (fv [f]) (by rfl) hRd (fv_one _) (by omega) (by decide) (by omega) ?_)
    intro ad8 cap8 w8 hown8 hg8 hat8
    clear y0 y1 hRd
    have hzX2 : (w5.alloc (.cells #[.string f.n, .string f.v] 146)).heap.size = w5.heap.size + 1 := by simp
    generalize w5.alloc (.cells #[.string f.n, .string f.v] 146) = wz at *
    replace HX := hide (HX.out.kept (hg8.block _ HX.out.lt (fun e => by have := (HLT.out (w.heap.size) e.symm).1; omega)))
    replace HRR := hide (HRR.out.kept (hg8.block _ HRR.out.lt (fun e => by have := (HLT.out (w.heap.size + 1) e.symm).1; omega)))
    replace H8 := hide (H8.out.kept (hg8.block _ H8.out.lt (fun e => HNL.out e.symm)))
    replace HFB := hide (HFB.out.kept (hg8.block _ HFB.out.lt (fun e => by have := (HLT.out (w4.heap.size) e.symm).2; omega)))
    have HL8 := hide (HO.out.lt)
    replace HO := hide (owns_kept HO.out (fun k hk hlt => hg8.block k hlt (fun e => (HNE.out k hk).2.2 e.symm)))
    replace HBW : Hid (Below w.heap.size w w8) := hide (HBW.out.trans ⟨hg8.os, hg8.tape, hg8.output, hg8.size, fun k hk => hg8.block k (Nat.lt_of_lt_of_le hk HBW.out.size) (fun e => by have := (HLT.out k e.symm).1; omega)⟩)
    have HNE8 : Hid (∀ q, (Value.slice a M.length p).ownBlock = some q → w.heap.size + 1 < q ∧ q ≠ w2.heap.size ∧ (Value.slice ad8 (out.length + 1) cap8).ownBlock ≠ some q) := fun q hq => ⟨(HNE.out q hq).1, (HNE.out q hq).2.1, fun e => by
      rcases hat8 with h | h
      · exact (HNE.out q hq).2.2 (h ▸ e)
      · have h2 := (HL8.out q hq).2
        have e2 := Option.some.inj (h.symm.trans e)
        exact absurd e2 (by omega)⟩
    have HNL8 : Hid ((Value.slice ad8 (out.length + 1) cap8).ownBlock ≠ some w2.heap.size) := fun e => by
      rcases hat8 with h | h
      · exact HNL.out (h ▸ e)
      · have e2 := Option.some.inj (h.symm.trans e)
        exact absurd e2 (by omega)
    have HOL8 : Hid (w8.ownsRow (w.heap.size + 1 + 1) 146 2 (.slice ad8 (out.length + 1) cap8) (out.length + 1) (fv out ++ fv [f])) := hown8
    have HLT8b := hide (hown8.lt)
    have hz8b := hg8.size
    clear hown8 hg8 hat8 HOL HNE HNL HL8
    have hTs := ext_size (s := t) k0 k1
    obtain ⟨T, hT⟩ : ∃ T, t.extract k.toNat t.size = T := ⟨_, rfl⟩
    rw [hT] at hTs
    have hsl : ∀ w : World, (Instr.slice 9 (.string t) (some (.int .i64 k)) none none).run Tryz.prog w = .ok (.string T) w := by
      intro w
      rw [run_slice_string_from_if (P := Tryz.prog) w 9 t .i64 k Tryz.underlying9, if_pos ⟨k0, k1⟩, hT]
    have hk1 : 1 ≤ k := by omega
    obtain ⟨n', rfl⟩ : ∃ n', n = n' + 1 := ⟨n - 1, by omega⟩
    have HNEXT : Hid (decF room n' (if b0 t < 128 then shr room (f :: M) else M) (out ++ [f]) T = R) := by
      have := decF_step (room := room) (n := n') (L := M) (out := out) (s := t) ht0 (by rw [hff]; exact hk0) (by rw [hff]; exact hokf) hl20'
      rw [hff] at this
      simp only at this
      rw [hT] at this
      exact this.symm.trans HREC.out
    clear hT
    have HALL2 : Hid (∀ u ∈ out ++ [f], okF u = true) := fun u hu => by
      rcases List.mem_append.1 hu with h | h
      · exact HALL.out u h
      · simp at h; rw [h]; exact hokf
    have hb := b0_get htp
    have hu := t[0].toNat_lt
    obtain ⟨c, hc⟩ : ∃ c : Int, (t[0].toNat : Int) = c := ⟨_, rfl⟩
    rw [hc] at hb
    rw [hb] at HNEXT
    have hc0 : 0 ≤ c := by omega
    have hc1 : c ≤ 255 := by omega
    clear hb
    have hlen : (out ++ [f]).length = out.length + 1 := by simp
    have HLEN := hide hlen
    clear hlen
    by_cases h128 : c < 128
    · have HNX : Hid (decF room n' (shr room (f :: M)) (out ++ [f]) T = R) := by show _ = _; rw [← HNEXT.out, if_pos h128]
      have HOKN := hide (shr_okT HOKM.out hokf)
      have HALM : Hid (∀ u ∈ M, okF u = true) := (okT_parts HOKM.out).2.2.1
      have hr0 := (okT_parts HOKM.out).1
      have y0 := HFB.out.cell (j := 0) rfl
      have y1 := HFB.out.cell (j := 1) rfl
      have HTT : Hid (TabAt w8 w2.heap.size w.heap.size room M) := ⟨⟨a, p, H8.out, HO.out, fun e => (HNE8.out _ e).2.1 rfl⟩⟩
      clear HNEXT
      go_wp2_with fail
      refine (note2 w2.heap.size w8.heap.size w.heap.size room M f _ HTT.out HALM.out hokf hr0 (by omega) (Nat.le_refl _)).mono ?_; rintro x w9 ⟨rfl, hT9, ht9⟩
      clear y0 y1
      generalize shr room (f :: M) = N at *
      obtain ⟨a9, p9, h89, ho9, hap9⟩ := hT9.ex
      have HNE9 : Hid (∀ q, (Value.slice a9 N.length p9).ownBlock = some q → w.heap.size + 1 < q ∧ q ≠ w2.heap.size ∧ (Value.slice ad8 (out.length + 1) cap8).ownBlock ≠ some q) := fun q hq => ⟨by have := (ho9.lt q hq).1; omega, fun e => hap9 (e ▸ hq), fun e => by have h1 := (ho9.lt q hq).1; have h2 := (HLT8b.out q e).2; omega⟩
      have H89 := hide h89; have HO9 := hide (owns_base (base' := w.heap.size) ho9 (fun q hq => by have := (ho9.lt q hq).1; omega))
      replace HX := hide (HX.out.kept (ht9.block _ HX.out.lt (by omega))); replace HRR := hide (HRR.out.kept (ht9.block _ HRR.out.lt (by omega)))
      replace HBW := hide (HBW.out.trans (ht9.below (by omega) HBW.out.size))
      replace HOL8 := hide (owns_turn HOL8.out ht9 (fun q hq => by have : q ≠ w2.heap.size := fun e => HNL8.out (e ▸ hq); omega))
      clear hT9 ht9 h89 ho9 hap9 H8 HO HTT HNE8
      go_wp2_with fail
      go_roundw
      case rel =>
        refine ⟨n', N, out ++ [f], T, a9, p9, ad8, cap8, ?_⟩
        rw [HLEN.out, fv_app]
        exact ⟨rfl, rfl, by omega, by omega, by omega, HALL2.out, HOKN.out, HNX.out, H89.out, HO9.out, HOL8.out, HNE9.out, HNL8.out, HX.out, HRR.out, HBW.out⟩
      case measure => show T.size < t.size; omega
    · have HNX : Hid (decF room n' M (out ++ [f]) T = R) := by show _ = _; rw [← HNEXT.out, if_neg h128]
      clear HNEXT
      go_wp2_with fail
      go_roundw
      case rel =>
        refine ⟨n', M, out ++ [f], T, a, p, ad8, cap8, ?_⟩
        rw [HLEN.out, fv_app]
        exact ⟨rfl, rfl, by omega, by omega, by omega, HALL2.out, HOKM.out, HNX.out, H8.out, HO.out, HOL8.out, HNE8.out, HNL8.out, HX.out, HRR.out, HBW.out⟩
      case measure => show T.size < t.size; omega
end Go.Proofs.YtllaeakeaabiaaaGreat
/- Connections in plain words: what is given, taken and replied. -/
namespace Go.Proofs.YtllaeakeaabiaaaGreat
open Go.RowKit
set_option maxRecDepth 100000
set_option linter.unusedSimpArgs false
set_option linter.unusedVariables false
theorem at_flow {c : CnD} {id : Int} {k : Nat} (h : okCn c = true) (hq : atE c.reg.es id = some k) : ∃ (hk : k < c.flows.length) (hke : k < c.reg.es.length), c.reg.es[k].id = id ∧ okFl c.flows[k] c.reg.es[k] = true ∧ 1 ≤ id ∧ id ≤ 100000 := by
  obtain ⟨hke, hid, _⟩ := atE_some hq
  have hk : k < c.flows.length := by rw [flows_len h]; exact hke
  have h' := okCn_iff.1 h
  have he := entOk_iff.1 ((okRg_iff.1 h'.1).2.2.2.1 k hke).1
  have hi := idB_iff.1 he.1
  exact ⟨hk, hke, hid, okFls_get h'.2.2.2.2.2.2 k hk hke, by omega, by omega⟩
theorem flow_ok {c : CnD} {k : Nat} {f' : FlD} (h : okCn c = true) (hf : ∀ hk : k < c.flows.length, ∀ e, okFl c.flows[k] e = true → okFl f' e = true) : okCn { c with flows := c.flows.set k f' } = true := by
  have h' := okCn_iff.1 h
  exact okCn_iff.2 ⟨h'.1, h'.2.1, h'.2.2.1, h'.2.2.2.1, h'.2.2.2.2.1, h'.2.2.2.2.2.1, okFls_set h'.2.2.2.2.2.2 hf⟩
theorem given_law {c : CnD} {id : Int} {s : ByteArray} {fin : Bool} (h : okCn c = true) : okCn (givenRaw c id s fin).1 = true ∧ (givenRaw c id s fin).2 ≤ s.size := by
  cases hq : atE c.reg.es id with
  | none => rw [given_none hq]; exact ⟨h, by show (0 : Int) ≤ _; omega⟩
  | some k =>
    obtain ⟨hk, hke, _, hfe, _, _⟩ := at_flow h hq
    rw [given_some hq hk hke]
    split
    · exact ⟨h, by show (0 : Int) ≤ _; omega⟩
    · obtain ⟨z, n, hz⟩ : ∃ z n, bckTu c.flows[k].tun s fin = (z, n) := ⟨_, _, rfl⟩
      obtain ⟨m, rfl, hm, _, hok, _⟩ := bck_law hz (okFl_iff.1 hfe).2.2.2.2
      rw [hz]
      refine ⟨flow_ok h fun _ e he => ?_, by show (m : Int) ≤ _; omega⟩
      rw [okFl_iff] at he ⊢
      exact ⟨he.1, he.2.1, he.2.2.1, he.2.2.2.1, hok⟩
/-- What is told of a window that grew. -/
theorem win_num {id n : Int} (h0 : 0 ≤ n) (h1 : n ≤ 16777215) : (winFr id n).k = 7 ∧ numV (winFr id n).b = n := by
  refine ⟨rfl, ?_⟩
  show numV (bytV 3 n) = n
  unfold numV
  rw [bytV_size, if_neg (by decide), bytV_bys]
  exact num_byt 3 n h0 (by omega)
theorem grant_win {c : CnD} {id n : Int} (h0 : 0 ≤ n) (h1 : n ≤ 16777215) : ∀ x ∈ (grantD c id n).2, x.k = 7 ∧ numV x.b = n := by
  intro x hx
  unfold grantD at hx
  by_cases hn : n = 0
  · rw [if_pos hn] at hx; cases hx
  · rw [if_neg hn] at hx
    by_cases hi : id = 0
    · rw [if_pos hi] at hx; simp at hx; rw [hx]; exact win_num h0 h1
    · rw [if_neg hi] at hx; simp at hx; rw [hx]; exact win_num h0 h1
theorem grant_zero_get {c : CnD} {n : Int} : (grantD c 0 n).1.get = c.get + n := by
  unfold grantD
  by_cases hn : n = 0
  · rw [if_pos hn, hn]; show c.get = c.get + 0; omega
  · rw [if_neg hn, if_pos rfl]
theorem took_law {c : CnD} {id n : Int} (h : okCn c = true) : okCn (tookRaw c id n).1 = true ∧ (tookRaw c id n).1.get - c.get = (tookRaw c id n).2.2.size ∧ ∀ x ∈ (tookRaw c id n).2.1, x.k = 7 ∧ numV x.b = (tookRaw c id n).2.2.size := by
  have hz : (((⟨#[]⟩ : ByteArray).size : Nat) : Int) = 0 := rfl
  have h' := okCn_iff.1 h
  cases hq : atE c.reg.es id with
  | none =>
    have : tookRaw c id n = (c, [], ⟨#[]⟩) := by unfold tookRaw; rw [hq]
    rw [this]
    exact ⟨h, by show c.get - c.get = _; rw [hz]; omega, nil_told⟩
  | some k =>
    obtain ⟨hk, hke, hid, hfe, hi1, hi2⟩ := at_flow h hq
    by_cases hd : c.dead = true
    · have : tookRaw c id n = (c, [], ⟨#[]⟩) := by
        unfold tookRaw; rw [hq]; simp only [List.getElem?_eq_getElem hk, List.getElem?_eq_getElem hke]; rw [if_pos hd]
      rw [this]
      exact ⟨h, by show c.get - c.get = _; rw [hz]; omega, nil_told⟩
    · obtain ⟨f, hf⟩ : ∃ f, c.flows[k] = f := ⟨_, rfl⟩
      obtain ⟨e, he⟩ : ∃ e, c.reg.es[k] = e := ⟨_, rfl⟩
      obtain ⟨room, hroom⟩ : ∃ room, max 0 (16777215 - max c.get f.get) = room := ⟨_, rfl⟩
      obtain ⟨m, hm⟩ : ∃ m, outN f.tun (min n room) = m := ⟨_, rfl⟩
      rw [hf, he] at hfe
      obtain ⟨y1, y2, y3, y4⟩ := okTu_true (okFl_iff.1 hfe).2.2.2.2
      have hpp := okPp_true y1
      have hmb : (m : Int) ≤ room ∧ m ≤ f.tun.up.b.size ∧ (m : Int) ≤ 2000 := by
        have h1 : m ≤ f.tun.up.b.size := by rw [← hm]; unfold outN; omega
        refine ⟨?_, h1, by omega⟩
        rw [← hm]; unfold outN; omega
      have hss : (f.tun.up.b.extract 0 m).size = m := by rw [ByteArray.size_extract]; omega
      have hwg := inB_true h'.2.2.2.1
      have hwf := inB_true (okFl_iff.1 hfe).2.1
      have hup1 : c.get + m ≤ 16777215 := by omega
      have hup2 : f.get + m ≤ 16777215 := by omega
      have ht : tookRaw c id n = (let c1 := atFl c id (outF (min n room)); let g1 := if e.state = 4 then (c1, []) else grantD c1 id (m : Int); ((grantD g1.1 0 (m : Int)).1, g1.2 ++ (grantD g1.1 0 (m : Int)).2, f.tun.up.b.extract 0 m)) := by
        unfold tookRaw
        rw [hq]
        simp only [List.getElem?_eq_getElem hk, List.getElem?_eq_getElem hke, hf, he, hroom, hm, hss]
        rw [if_neg hd]
      have hout : ∀ e', okFl f e' = true → okFl (outF (min n room) f) e' = true := fun e' hx => by
        rw [okFl_iff] at hx ⊢
        obtain ⟨z, u, hzu⟩ : ∃ z u, outTu f.tun (min n room) = (z, u) := ⟨_, _, rfl⟩
        have hl := (out_law hzu hx.2.2.2.2).2.2.1
        have : z = (outF (min n room) f).tun := by
          unfold outTu at hzu
          rw [if_neg (by rw [hx.2.2.2.2]; decide)] at hzu
          exact (Prod.mk.inj hzu).1.symm
        exact ⟨hx.1, hx.2.1, hx.2.2.1, hx.2.2.2.1, by rw [← this]; exact hl⟩
      have hc1 : okCn (atFl c id (outF (min n room))) = true := atFl_ok h fun j hj hqj e' hx => by
        rw [hq] at hqj
        obtain rfl := Option.some.inj hqj
        rw [hf] at hx ⊢
        exact hout e' hx
      have hat := atFl_at (c := c) hq hk (outF (min n room))
      rw [hf] at hat
      have hg2 : okCn (if e.state = 4 then (atFl c id (outF (min n room)), ([] : List Fr)) else grantD (atFl c id (outF (min n room))) id (m : Int)).1 = true ∧ (if e.state = 4 then (atFl c id (outF (min n room)), ([] : List Fr)) else grantD (atFl c id (outF (min n room))) id (m : Int)).1.get = c.get ∧ ∀ x ∈ (if e.state = 4 then (atFl c id (outF (min n room)), ([] : List Fr)) else grantD (atFl c id (outF (min n room))) id (m : Int)).2, x.k = 7 ∧ numV x.b = m := by
        have hget : (atFl c id (outF (min n room))).get = c.get := by rw [hat]
        split
        · exact ⟨hc1, hget, nil_told⟩
        · refine ⟨grant_ok hc1 (fun e => absurd e (by omega)) fun _ j hj hqj => ?_, (grant_get (by omega)).trans hget, grant_win (by omega) (by omega)⟩
          have hqj' : atE c.reg.es id = some j := by
            have : (atFl c id (outF (min n room))).reg = c.reg := by rw [hat]
            rw [this] at hqj; exact hqj
          rw [hq] at hqj'
          obtain rfl := Option.some.inj hqj'
          have : (atFl c id (outF (min n room))).flows[k] = outF (min n room) f := by simp only [hat]; simp
          rw [this]
          exact win_of (by show _ ≤ f.get + _; omega) (by show f.get + _ ≤ _; omega)
      rw [ht]
      dsimp only
      rw [hss]
      refine ⟨grant_ok hg2.1 (fun _ => ?_) (fun e => absurd rfl e), ?_, app_told hg2.2.2 (grant_win (by omega) (by omega))⟩
      · rw [hg2.2.1]; exact win_of (by omega) (by omega)
      · rw [grant_zero_get, hg2.2.1]; omega
end Go.Proofs.YtllaeakeaabiaaaGreat
/- The program's link in a block: one more Flow, other Flows, the last frame told marked as the end. -/
namespace Go.Proofs.YtllaeakeaabiaaaGreat
open Go.RowKit
set_option maxRecDepth 100000
set_option linter.unusedSimpArgs false
set_option linter.unusedVariables false
theorem fr4_len (A : List Fr) : (fr A).length = A.length * 4 := by
  unfold fr
  induction A with
  | nil => rfl
  | cons a A ih => rw [List.flatMap_cons, List.length_append, ih]; show 4 + _ = _; simp; omega
theorem fr4_set (A : List Fr) (x : Fr) : (fr (A ++ [x])).set (A.length * 4 + 1) (.int .i64 1) = fr (A ++ [⟨x.k, 1, x.st, x.b⟩]) := by
  have hl := fr4_len A
  rw [fr_app, fr_app, ← hl, List.set_append_right _ _ (by omega)]
  congr 1
  show [Value.int .i64 x.k, .int .i64 x.fl, .int .i64 x.st, .string x.b].set ((fr A).length + 1 - (fr A).length) _ = _
  rw [show (fr A).length + 1 - (fr A).length = 1 by omega]
  rfl
section
variable {w w' W W' : World} {lo g : Nat} {d d' : CnD} {L L' : List Fr} {bs bx by_ vb : List Nat}
theorem Lnk.step2 (h : Lnk lo g w bs W d L bx) (k : Lnk lo g W (bx ++ vb) W' d' L' by_) : Lnk lo g w (bs ++ vb) W' d' L' by_ := by
  have hn : NewB w (bs ++ vb) (bx ++ vb) := fun x hx => by
    rcases List.mem_append.1 hx with e | e
    · exact (h.n x e).imp (List.mem_append_left _) id
    · exact .inl (List.mem_append_right _ e)
  exact ⟨k.m, (h.t.wide (fun x hx => by rcases List.mem_cons.1 hx with e | e <;> simp [e])).then hn k.t, hn.trans k.n h.t.size⟩
theorem Lnk.wide (h : Lnk lo g w bs W d L bx) : Lnk lo g w (bs ++ vb) W d L bx :=
  ⟨h.m, h.t.wide (fun x hx => by rcases List.mem_cons.1 hx with e | e <;> simp [e]), fun b hb => (h.n b hb).imp (List.mem_append_left _) id⟩
/-- Blocks that are new since the start are no blocks of the start's. -/
theorem Lnk.step3 (h : Lnk lo g w bs W d L bx) (hv : ∀ q ∈ vb, w.heap.size ≤ q) (k : Lnk lo g W (bx ++ vb) W' d' L' by_) : Lnk lo g w bs W' d' L' by_ := by
  have hn : NewB w bs (bx ++ vb) := fun x hx => by
    rcases List.mem_append.1 hx with e | e
    · exact h.n x e
    · exact .inr (hv x e)
  exact ⟨k.m, h.t.then hn k.t, hn.trans k.n h.t.size⟩
/-- A row apart from the link stays so behind a step. -/
theorem Lnk.apart {q : Nat} (h : Lnk lo g w bs W d L bx) (hq : q < w.heap.size) (hn : q ∉ g :: bs) : q ∉ g :: bx := fun hx => by
  rcases List.mem_cons.1 hx with e | e
  · exact hn (by simp [e])
  · rcases h.n q e with e | e
    · exact hn (by simp [e])
    · omega
theorem LkM.grow (h : LkM w lo g d L bs) :
    ∃ ve vi vo a p tv xs, RowIs w g 69 (lkcs d ve vi vo (.slice a d.flows.length p) tv) ∧ w.ownsRow 0 89 15 (.slice a d.flows.length p) d.flows.length xs ∧ (∀ q, (Value.slice a d.flows.length p).ownBlock = some q → q ∈ bs) ∧
      ∀ (w1 : World) (v' : Value) (f : FlD) (vq : Value) (b : List Nat), flowS.own w (flcs f vq) f b → b.Nodup → (∀ q ∈ b, q ∉ g :: bs ∧ lo ≤ q) → w1.ownsRow 0 89 15 v' (d.flows.length + 1) (xs ++ flcs f vq) → w.grownBy w1 (Value.slice a d.flows.length p).ownBlock → (v'.ownBlock = (Value.slice a d.flows.length p).ownBlock ∨ v'.ownBlock = some w.heap.size) →
        ∃ bx, Lnk lo g w (bs ++ b) (w1.setCell ⟨g, 10, none⟩ v') { d with flows := d.flows ++ [f] } L bx := by
  have hlts := h.lt
  have hbs0 := h.base
  obtain ⟨⟨ve, vi, vo, vf, tv, cb, hrow, ⟨⟨be, bi, bo, bf, h1, h2, h3, h4, rfl⟩, hn⟩, h5, h6, h7⟩, hl, hlo, hng, hbs⟩ := h
  obtain ⟨a, p, hvf, _, _⟩ := h4.rd.form
  subst hvf
  have hnf : bf.Nodup := nodup_right hn
  obtain ⟨xs, hxs, hgrow⟩ := h4.grow hnf
  have hvb : ∀ q, (Value.slice a d.flows.length p).ownBlock = some q → q ∈ bf := fun q hq => by
    obtain ⟨ts, _, _, _, rfl⟩ := h4
    simp [hq]
  refine ⟨ve, vi, vo, a, p, tv, xs, hrow, hxs, fun q hq => h6 q (by simp [hvb q hq]), fun w1 v' f vq b hx hbn hbd ho' hg hat => ?_⟩
  obtain ⟨bf', hO, hn', hsub⟩ := hgrow w1 v' (flcs f vq) f b hx hbn (fun q hq hq2 => (hbd q hq).1 (by simp [h6 q (by simp [hq2])])) ho' hg hat
  have hk1 : ∀ x, x < w.heap.size → x ∉ bf → w1.heap[x]? = w.heap[x]? := fun x hx hx2 => hg.block x hx (fun e => hx2 (hvb x e.symm))
  have hgb : g ∉ bf := fun e => hng (h6 g (by simp [e]))
  have hap : ∀ x ∈ be ++ bi ++ bo, x ∉ bf := nodup_apart hn
  have hgl : g < w.heap.size := hl g (by simp)
  have hcl : ∀ x ∈ be ++ bi ++ bo ++ bf, x < w.heap.size := fun x hx => hl x (by simp [h6 x hx])
  have hgs : (w1.setCell ⟨g, 10, none⟩ v').heap.size = w1.heap.size := by simp
  have hk2 : ∀ x, x ≠ g → (w1.setCell ⟨g, 10, none⟩ v').heap[x]? = w1.heap[x]? := fun x hx => Below.heap_setCell _ _ _ x (show x ≠ g from hx)
  have hk3 : ∀ x ∈ be ++ bi ++ bo, (w1.setCell ⟨g, 10, none⟩ v').heap[x]? = w.heap[x]? := fun x hx => (hk2 x (fun e => hng (by rw [← e]; exact h6 x (List.mem_append_left _ hx)))).trans (hk1 x (hcl x (List.mem_append_left _ hx)) (hap x hx))
  have hgf : g ∉ bf' := fun e => by
    rcases hsub g e with e | e | e
    · exact hgb e
    · exact (hbd g e).1 (by simp)
    · omega
  have hg2 := hg.size
  have hs : w.heap.size ≤ (w1.setCell ⟨g, 10, none⟩ v').heap.size := by rw [hgs]; omega
  have hrow1 : RowIs w1 g 69 (lkcs d ve vi vo (.slice a d.flows.length p) tv) := hrow.kept (hk1 g hgl hgb)
  have hbl : ∀ q ∈ b, q < w.heap.size := fun q hq => flowS.own_lt hx q hq
  refine ⟨bs ++ bf', ⟨⟨ve, vi, vo, v', tv, be ++ bi ++ bo ++ bf', hrow1.set 10 v', ⟨⟨be, bi, bo, bf', h1.keep hs (fun b hb => hk3 b (by simp [hb])), h2.keep hs (fun b hb => hk3 b (by simp [hb])), h3.keep hs (fun b hb => hk3 b (by simp [hb])), hO.keep (by simp) (fun b hb => hk2 b (fun e => hgf (e ▸ hb))), rfl⟩, ?_⟩, ?_, ?_, ?_⟩, ?_, ?_, ?_, ?_⟩, ?_, ?_⟩
  · refine nodup_mk (nodup_left hn) hn' fun x hx hx2 => ?_
    rcases hsub x hx2 with e | e | e
    · exact hap x hx e
    · exact (hbd x e).1 (List.mem_cons_of_mem _ (h6 x (List.mem_append_left _ hx)))
    · have := hcl x (List.mem_append_left _ hx); omega
  · exact owns_kept h5 (fun q hq hq2 => (hk2 q (fun e => hng (e ▸ (h7 q hq).1))).trans (hk1 q hq2 (fun e => (h7 q hq).2 (List.mem_append_right _ e))))
  · intro x hx
    rcases List.mem_append.1 hx with e | e
    · exact List.mem_append_left _ (h6 x (List.mem_append_left _ e))
    · exact List.mem_append_right _ e
  · intro q hq
    refine ⟨List.mem_append_left _ (h7 q hq).1, fun hx => ?_⟩
    rcases List.mem_append.1 hx with e | e
    · exact (h7 q hq).2 (List.mem_append_left _ e)
    · rcases hsub q e with e | e | e
      · exact (h7 q hq).2 (List.mem_append_right _ e)
      · exact (hbd q e).1 (by simp [(h7 q hq).1])
      · have := hl q (by simp [(h7 q hq).1]); omega
  · intro x hx
    rw [hgs]
    rcases List.mem_cons.1 hx with e | e
    · omega
    · rcases List.mem_append.1 e with e | e
      · have := hl x (by simp [e]); omega
      · exact hO.lt x e
  · intro x hx
    rcases List.mem_append.1 hx with e | e
    · exact hlo x e
    · rcases hsub x e with e | e | e
      · exact hlo x (h6 x (by simp [e]))
      · exact (hbd x e).2
      · omega
  · intro hx
    rcases List.mem_append.1 hx with e | e
    · exact hng e
    · exact hgf e
  · rw [hgs]; omega
  · refine ⟨hg.os, hg.tape, hg.output, hs, fun k hk hk2' => ?_⟩
    exact (hk2 k (fun e => hk2' (by simp [e]))).trans (hk1 k hk (fun e => hk2' (by simp [h6 k (by simp [e])])))
  · intro x hx
    rcases List.mem_append.1 hx with e | e
    · exact .inl (by simp [e])
    · rcases hsub x e with e | e | e
      · exact .inl (by simp [h6 x (by simp [e])])
      · exact .inl (by simp [e])
      · exact .inr (by omega)
/-- The last frame told ends. -/
theorem LkM.flag {A : List Fr} {x : Fr} (h : LkM w lo g d (A ++ [x]) bs) : ∃ gv cap ve vi vo vf, RowIs w g 69 (lkcs d ve vi vo vf (.slice (some ⟨gv, 0, none⟩) (A ++ [x]).length cap)) ∧ gv < w.heap.size ∧ gv ≠ g ∧ w.cell? ⟨gv, A.length * 4 + 1, none⟩ = some (.int .i64 x.fl) ∧ w.frozen? ⟨gv, A.length * 4 + 1, none⟩ = false ∧
    Lnk lo g w bs (w.setCell ⟨gv, A.length * 4 + 1, none⟩ (.int .i64 1)) d (A ++ [⟨x.k, 1, x.st, x.b⟩]) bs := by
  have hl := fr4_len A
  obtain ⟨⟨ve, vi, vo, vf, tv, cb, hrow, hc, h5, h6, h7⟩, hlt0, hlo0, hng, hbs⟩ := h
  obtain ⟨gv, cap, hv, hob, hlo, hlt, _, _, _⟩ := owns_open h5 (by simp)
  have hgb := (h7 gv hob).1
  have hgc := (h7 gv hob).2
  have hgg : gv ≠ g := fun e => hng (e ▸ hgb)
  have ho := h5
  rw [hv] at ho
  have hk : ∀ q, q ≠ gv → (w.setCell ⟨gv, A.length * 4 + 1, none⟩ (.int .i64 1)).heap[q]? = w.heap[q]? := fun q hq => Below.heap_setCell _ _ _ q hq
  refine ⟨gv, cap, ve, vi, vo, vf, by rw [← hv]; exact hrow, hlt, hgg, ?_, ho.frozenAt _, ⟨⟨ve, vi, vo, vf, tv, cb, hrow.kept (hk g (fun e => hgg e.symm)), hc.keep (by simp) (fun b hb => hk b (fun e => hgc (e ▸ hb))), ?_, h6, h7⟩, fun b hb => by have := hlt0 b hb; simpa using this, hlo0, hng, by simpa using hbs⟩, (TurnB.refl _ _).set _ _ (by simp [hgb]), NewB.refl _ _⟩
  · rw [ho.cellAt _ (by simp; omega), fr_app, ← hl, List.getElem?_append_right (by omega)]
    rw [show (fr A).length + 1 - (fr A).length = 1 by omega]
    rfl
  · have := owns_set h5 hob (A.length * 4 + 1) (.int .i64 1)
    rw [fr4_set] at this
    simpa using this
end
end Go.Proofs.YtllaeakeaabiaaaGreat
