/- Several small texts of one level, one behind the other. -/
import Derived.Test.YtllaeakeaabiaaaGreatQG13
import Derived.Test.YtllaeakeaabiaaaGreatQG7
import Derived.Laws.StructEq
import Derived.Deep.Cut
/- RowAt of the program and of the model, in plain words: row n of a right Table. -/
namespace Go.Proofs.YtllaeakeaabiaaaGreat
open Go.RowKit
set_option maxRecDepth 100000
set_option linter.unusedSimpArgs false
set_option linter.unusedVariables false
/-- What RowAt answers of a Table of this Room and these Rows. -/
def rowAtD (room : Int) (L : List Fd) (n : Int) : Fd × Bool := if okT room L then (if inB n 1 L.length then (L.getD (n.toNat - 1) ⟨⟨#[]⟩, ⟨#[]⟩⟩, true) else (⟨⟨#[]⟩, ⟨#[]⟩⟩, false)) else (⟨⟨#[]⟩, ⟨#[]⟩⟩, false)


set_option maxHeartbeats 1000000 in
theorem implRowAt (L : List Fd) (room : Int) (v : Value) (n : Int) (w : World) (hr0 : Reads w v L.length 2 (fv L)) (hf : ∀ f ∈ L, f.fine) :
    Calls Tryz.prog 230 #[.agg #[.int .i64 room, v], .int .i64 n] w fun x w' => x = .returned (.tuple #[.agg #[.string (rowAtD room L n).1.n, .string (rowAtD room L n).1.v], .bool (rowAtD room L n).2]) ∧ Below w.heap.size w w' := by
  obtain ⟨D, hD⟩ : ∃ D, D = rowAtD room L n := ⟨_, rfl⟩
  rw [← hD]
  have HD := hide hD
  have HR := hide hr0
  obtain ⟨hl, ad, cap, rfl, h1, h2, h3⟩ := hr0
  have H3 := hide h3
  unfold maxLen at h2
  clear h3 hD
  go_enter Tryz.func230, Tryz.ntmps230
  go_wp2_with fail
  generalize hV : (w.alloc (.cells #[.int .i64 room, .slice ad L.length cap] 40)).alloc (.cells #[.string ⟨#[]⟩, .string ⟨#[]⟩] 146) = V
  have HBW : Hid (Below w.heap.size w V) := by show Below _ _ _; rw [← hV]; exact bo_alloc ((Below.refl _ _).alloc (Nat.le_refl _) _) _
  have HX : Hid (RowIs V w.heap.size 40 [.int .i64 room, .slice ad L.length cap]) := by show RowIs _ _ _ _; rw [← hV]; exact (rowIs_new w 40 [.int .i64 room, .slice ad L.length cap]).alloc _
  have HRR : Hid (RowIs V (w.heap.size + 1) 146 [.string ⟨#[]⟩, .string ⟨#[]⟩]) := by show RowIs _ _ _ _; rw [← hV]; simpa using rowIs_new (w.alloc (.cells #[.int .i64 room, .slice ad L.length cap] 40)) 146 [.string ⟨#[]⟩, .string ⟨#[]⟩]
  have hlV := HRR.out.lt
  clear hV
  refine (implTOk L room _ _ (HR.out.new HBW.out) hf).mono ?_
  rintro x w1 ⟨rfl, hb1⟩
  replace HX := hide (HX.out.new hb1)
  replace HRR := hide (HRR.out.new hb1)
  replace HBW := hide (bchain HBW.out hb1)
  replace hlV := Nat.lt_of_lt_of_le hlV hb1.size
  clear hb1
  have x0 := HX.out.cell (j := 0) rfl
  have x1 := HX.out.cell (j := 1) rfl
  have r0 := HRR.out.cell (j := 0) rfl
  have r1 := HRR.out.cell (j := 1) rfl
  have r2 := HRR.out.frozen 0
  have r3 := HRR.out.frozen 1
  cases hR : okT room L
  · have HDD : Hid (D = (⟨⟨#[]⟩, ⟨#[]⟩⟩, false)) := by show _ = _; rw [HD.out]; simp [rowAtD, hR]
    go_wp2_with fail
    refine bodyPost_ret (v := (.tuple #[.agg #[.string ⟨#[]⟩, .string ⟨#[]⟩], .bool false])) (by simp [results, Tryz.results230, go_sem, *]) rfl ?_
    rw [HDD.out]
    exact ⟨rfl, (HBW.out.setCell (show w.heap.size ≤ w.heap.size + 1 by omega) _).setCell (show w.heap.size ≤ w.heap.size + 1 by omega) _⟩
  cases hin : inB n 1 L.length
  · have HDD : Hid (D = (⟨⟨#[]⟩, ⟨#[]⟩⟩, false)) := by show _ = _; rw [HD.out]; simp [rowAtD, hR, hin]
    go_wp2_with fail
    refine (implWithin _ _ _ _).mono ?_; rw [hin]; rintro x w2 ⟨rfl, rfl⟩
    go_wp2_with fail
    refine bodyPost_ret (v := (.tuple #[.agg #[.string ⟨#[]⟩, .string ⟨#[]⟩], .bool false])) (by simp [results, Tryz.results230, go_sem, *]) rfl ?_
    rw [HDD.out]
    exact ⟨rfl, (HBW.out.setCell (show w.heap.size ≤ w.heap.size + 1 by omega) _).setCell (show w.heap.size ≤ w.heap.size + 1 by omega) _⟩
  obtain ⟨hn1, hn2⟩ := inB_true hin
  obtain ⟨k, rfl⟩ : ∃ k : Nat, n = (k : Int) + 1 := ⟨(n - 1).toNat, by omega⟩
  have hk : k < L.length := by omega
  have hok := (okT_parts hR).2.2.1 _ (List.getElem_mem hk)
  have HDD : Hid (D = (L[k], true)) := by show _ = _; rw [HD.out]; have h9 : ((k : Int) + 1).toNat - 1 = k := by omega
                                          simp [rowAtD, hR, hin, h9, hk]
  obtain ⟨b, o, rfl, hbw, hc⟩ := H3.out (by omega)
  obtain ⟨s0, s1⟩ := fv_get L k hk
  obtain ⟨f, hff⟩ : ∃ f, f = L[k] := ⟨_, rfl⟩
  rw [← hff] at s0 s1 HDD hok
  have c0 : w1.cell? ⟨b, o + k * 2, none⟩ = some (.string f.n) := by rw [HBW.out.cell (p := ⟨b, o + k * 2, none⟩) hbw]; exact hc _ _ s0
  have c1 : w1.cell? ⟨b, o + k * 2 + 1, none⟩ = some (.string f.v) := by rw [HBW.out.cell (p := ⟨b, o + k * 2 + 1, none⟩) hbw]; exact hc _ _ s1
  clear hc s0 s1 hff
  go_wp2_with fail
  refine (implWithin _ _ _ _).mono ?_; rw [hin]; rintro x w2 ⟨rfl, rfl⟩
  go_wp2_with fail
  refine (apart1 f _ hok).mono ?_; rintro x w3 ⟨rfl, hb3⟩
  replace HRR := hide (HRR.out.new hb3)
  replace HBW := hide (bchain HBW.out hb3)
  clear hb3 x0 x1 r0 r1 r2 r3 c0 c1
  have r0 := HRR.out.cell (j := 0) rfl
  have r1 := HRR.out.cell (j := 1) rfl
  have r2 := HRR.out.frozen 0
  have r3 := HRR.out.frozen 1
  go_wp2_with fail
  refine bodyPost_ret (v := (.tuple #[.agg #[.string f.n, .string f.v], .bool true])) (by simp [results, Tryz.results230, go_sem, *]) rfl ?_
  rw [HDD.out]
  exact ⟨rfl, (HBW.out.setCell (show w.heap.size ≤ w.heap.size + 1 by omega) _).setCell (show w.heap.size ≤ w.heap.size + 1 by omega) _⟩
end Go.Proofs.YtllaeakeaabiaaaGreat
/- Lookup of the program and of the model, in plain words. -/
namespace Go.Proofs.YtllaeakeaabiaaaGreat
open Go.RowKit
set_option maxRecDepth 100000
set_option linter.unusedSimpArgs false
set_option linter.unusedVariables false
/-- Is a row alike? Has it this Name? -/
def alike (f r : Fd) : Bool := (r.n.toList == f.n.toList) && (r.v.toList == f.v.toList)
def named (f r : Fd) : Bool := r.n.toList == f.n.toList
/-- The number of the first row of which p speaks; 0: none. -/
def numOf (p : Fd → Bool) : List Fd → Nat
  | [] => 0
  | r :: L => if p r then 1 else (if numOf p L = 0 then 0 else numOf p L + 1)
def lookL (L : List Fd) (f : Fd) : Int × Bool := if numOf (alike f) L = 0 then ((numOf (named f) L : Int), false) else ((numOf (alike f) L : Int), true)
def lookD (room : Int) (L : List Fd) (f : Fd) : Int × Bool := if okT room L then lookL L f else (0, false)

theorem numOf_app (p : Fd → Bool) (A B : List Fd) : numOf p (A ++ B) = if numOf p A = 0 then (if numOf p B = 0 then 0 else A.length + numOf p B) else numOf p A := by
  induction A with
  | nil => simp [numOf]
  | cons r A ih =>
    simp only [List.cons_append, numOf, ih]
    by_cases h : p r
    · simp [h]
    · simp only [h, if_false, Bool.false_eq_true]
      by_cases h2 : numOf p A = 0
      · simp only [h2, if_true]
        by_cases h3 : numOf p B = 0
        · simp [h3]
        · simp only [h3, if_false]; rw [if_neg (by omega)]; simp; omega
      · simp [h2]
theorem numOf_one (p : Fd → Bool) (L : List Fd) (k : Nat) (hk : k < L.length) : numOf p (L.take (k + 1)) = if numOf p (L.take k) = 0 then (if p L[k] then k + 1 else 0) else numOf p (L.take k) := by
  rw [List.take_succ_eq_append_getElem hk, numOf_app]
  have h1 : (L.take k).length = k := by rw [List.length_take]; omega
  simp only [h1, numOf]
  by_cases h : p L[k] <;> simp [h]
theorem numOf_cut (p : Fd → Bool) (L : List Fd) (k : Nat) (hk : k < L.length) (h0 : numOf p (L.take k) = 0) (h1 : p L[k] = true) : numOf p L = k + 1 := by
  have h := numOf_one p L k hk
  rw [if_pos h0, if_pos h1] at h
  conv => lhs; rw [← List.take_append_drop (k + 1) L]
  rw [numOf_app, h]; simp
theorem numOf_no (p : Fd → Bool) (L : List Fd) (k : Nat) (hk : k < L.length) (h0 : numOf p (L.take k) = 0) (h1 : p L[k] = false) : numOf p (L.take (k + 1)) = 0 := by
  rw [numOf_one p L k hk, if_pos h0, h1]; rfl
theorem numOf_le (p : Fd → Bool) (L : List Fd) : numOf p L ≤ L.length := by
  induction L with
  | nil => simp [numOf]
  | cons r L ih => simp only [numOf, List.length_cons]; split; omega; split <;> omega

set_option maxHeartbeats 1000000 in
theorem specLookL (L : List Fd) (room : Int) (v : Value) (f : Fd) (w : World) (hr0 : Reads w v L.length 2 (fv L)) (hL : L.length ≤ 111) :
    Calls Tryz.prog 191 #[.agg #[.int .i64 room, v], .agg #[.string f.n, .string f.v]] w fun x w' => x = .returned (.tuple #[.int .i64 (lookL L f).1, .bool (lookL L f).2]) ∧ Below w.heap.size w w' := by
  obtain ⟨D, hD⟩ : ∃ D, D = lookL L f := ⟨_, rfl⟩
  rw [← hD]
  have HD := hide hD
  obtain ⟨hl, ad, cap, rfl, h1, h2, h3⟩ := hr0
  have H3 := hide h3
  unfold maxLen at h2
  clear h3 hD
  go_enter Tryz.func191, Tryz.ntmps191
  go_wp2_with fail
  generalize hV : (w.alloc (.cells #[.int .i64 room, .slice ad L.length cap] 40)).alloc (.cells #[.string f.n, .string f.v] 146) = V
  have HBW : Hid (Below w.heap.size w V) := by show Below _ _ _; rw [← hV]; exact bo_alloc ((Below.refl _ _).alloc (Nat.le_refl _) _) _
  have HX : Hid (RowIs V w.heap.size 40 [.int .i64 room, .slice ad L.length cap]) := by show RowIs _ _ _ _; rw [← hV]; exact (rowIs_new w 40 [.int .i64 room, .slice ad L.length cap]).alloc _
  have HY : Hid (RowIs V (w.heap.size + 1) 146 [.string f.n, .string f.v]) := by show RowIs _ _ _ _; rw [← hV]; simpa using rowIs_new (w.alloc (.cells #[.int .i64 room, .slice ad L.length cap] 40)) 146 [.string f.n, .string f.v]
  clear hV
  go_loopw [6] (fun i wr => ∃ (k : Nat), i = .int .i64 k ∧ k ≤ L.length ∧ numOf (alike f) (L.take k) = 0 ∧ Below V.heap.size V wr) (fun i _ => L.length - (intOf i).toNat)
  case atStart => exact ⟨0, rfl, Nat.zero_le _, rfl, Below.refl _ _⟩
  case round =>
    obtain ⟨k, rfl, hk, hno, hbr⟩ := hrel
    have x0 := (HX.out.new hbr).cell (j := 0) rfl
    have x1 := (HX.out.new hbr).cell (j := 1) rfl
    have y0 := (HY.out.new hbr).cell (j := 0) rfl
    have y1 := (HY.out.new hbr).cell (j := 1) rfl
    by_cases hlt : k < L.length
    · obtain ⟨b, o, rfl, hbw, hc⟩ := H3.out (by omega)
      obtain ⟨s0, s1⟩ := fv_get L k hlt
      have hbx := bchain HBW.out hbr
      have c0 : wr.cell? ⟨b, o + k * 2, none⟩ = some (.string L[k].n) := by rw [hbx.cell (p := ⟨b, o + k * 2, none⟩) hbw]; exact hc _ _ s0
      have c1 : wr.cell? ⟨b, o + k * 2 + 1, none⟩ = some (.string L[k].v) := by rw [hbx.cell (p := ⟨b, o + k * 2 + 1, none⟩) hbw]; exact hc _ _ s1
      have HBX := hide hbx
      clear hc s0 s1 hbx
      have HCUT := hide (numOf_cut (alike f) L k hlt hno)
      have HNOX := hide (numOf_no (alike f) L k hlt hno)
      generalize L[k] = r at *
      have hkI : (k : Int) < L.length := by omega
      cases hp : alike f r
      · have HN1 := hide (HNOX.out hp)
        have HBR := hide hbr
        have hpf : (r.n.toList == f.n.toList) = false ∨ ((r.n.toList == f.n.toList) = true ∧ (r.v.toList == f.v.toList) = false) := by unfold alike at hp; revert hp; cases (r.n.toList == f.n.toList) <;> simp
        clear HCUT HNOX hno hbr hp
        rcases hpf with hn | ⟨hn, hv⟩
        · go_wp2_with fail
          go_quiet (fail)
          go_wp2_with fail
          go_roundw
          case rel => exact ⟨k + 1, by go_num, by omega, HN1.out, bo_drewN _ HBR.out⟩
          case measure => simp [intOf]; omega
        · go_wp2_with fail
          go_quiet (fail)
          go_wp2_with fail
          go_roundw
          case rel => exact ⟨k + 1, by go_num, by omega, HN1.out, bo_drewN _ HBR.out⟩
          case measure => simp [intOf]; omega
      · have hn : (r.n.toList == f.n.toList) = true ∧ (r.v.toList == f.v.toList) = true := by unfold alike at hp; simpa using hp
        obtain ⟨hn, hv⟩ := hn
        have HDD : Hid (D = ((k : Int) + 1, true)) := by show _ = _; rw [HD.out]; have h9 := HCUT.out hp; simp [lookL, h9]
        clear HCUT HNOX hno hp
        go_wp2_with fail
        go_quiet (fail)
        go_wp2_with fail
        refine bodyPost_ret (v := (.tuple #[.int .i64 ((k : Int) + 1), .bool true])) (by simp [results, Tryz.results191, go_sem, *]) rfl ?_
        rw [HDD.out]
        exact ⟨rfl, bo_drewN _ HBX.out⟩
    · obtain rfl : k = L.length := by omega
      rw [List.take_length] at hno
      have HNO := hide hno
      have HBW1 := hide (bchain HBW.out hbr)
      have HX1 := hide (HX.out.new hbr); have HY1 := hide (HY.out.new hbr)
      clear hno HX HY HBW
      go_wp2_with fail
      clear x0 x1 y0 y1 hbr
      obtain ⟨V1, rfl⟩ : ∃ x : World, x = wr := ⟨_, rfl⟩
      go_loopw [7] (fun i wr => ∃ (k : Nat), i = .int .i64 k ∧ k ≤ L.length ∧ numOf (named f) (L.take k) = 0 ∧ Below V1.heap.size V1 wr) (fun i _ => L.length - (intOf i).toNat)
      case atStart => exact ⟨0, rfl, Nat.zero_le _, rfl, Below.refl _ _⟩
      case round =>
        obtain ⟨k, rfl, hk, hno, hbr⟩ := hrel
        have x0 := (HX1.out.new hbr).cell (j := 0) rfl
        have x1 := (HX1.out.new hbr).cell (j := 1) rfl
        have y0 := (HY1.out.new hbr).cell (j := 0) rfl
        have y1 := (HY1.out.new hbr).cell (j := 1) rfl
        by_cases hlt : k < L.length
        · obtain ⟨b, o, rfl, hbw, hc⟩ := H3.out (by omega)
          obtain ⟨s0, s1⟩ := fv_get L k hlt
          have hbx := bchain HBW1.out hbr
          have c0 : wr.cell? ⟨b, o + k * 2, none⟩ = some (.string L[k].n) := by rw [hbx.cell (p := ⟨b, o + k * 2, none⟩) hbw]; exact hc _ _ s0
          have c1 : wr.cell? ⟨b, o + k * 2 + 1, none⟩ = some (.string L[k].v) := by rw [hbx.cell (p := ⟨b, o + k * 2 + 1, none⟩) hbw]; exact hc _ _ s1
          have HBX := hide hbx
          clear hc s0 s1 hbx
          have HCUT := hide (numOf_cut (named f) L k hlt hno)
          have HNOX := hide (numOf_no (named f) L k hlt hno)
          generalize L[k] = r at *
          have hkI : (k : Int) < L.length := by omega
          cases hp : named f r
          · have HN1 := hide (HNOX.out hp)
            have HBR := hide hbr
            have hn : (r.n.toList == f.n.toList) = false := hp
            clear HCUT HNOX hno hbr hp
            go_wp2_with fail
            go_quiet (fail)
            go_wp2_with fail
            go_roundw
            case rel => exact ⟨k + 1, by go_num, by omega, HN1.out, bo_drewN _ HBR.out⟩
            case measure => simp [intOf]; omega
          · have hn : (r.n.toList == f.n.toList) = true := hp
            have HDD : Hid (D = ((k : Int) + 1, false)) := by show _ = _; rw [HD.out]; have h9 := HCUT.out hp; simp [lookL, HNO.out, h9]
            clear HCUT HNOX hno hp
            go_wp2_with fail
            go_quiet (fail)
            go_wp2_with fail
            refine bodyPost_ret (v := (.tuple #[.int .i64 ((k : Int) + 1), .bool false])) (by simp [results, Tryz.results191, go_sem, *]) rfl ?_
            rw [HDD.out]
            exact ⟨rfl, bo_drewN _ HBX.out⟩
        · obtain rfl : k = L.length := by omega
          rw [List.take_length] at hno
          have HDD : Hid (D = (0, false)) := by show _ = _; rw [HD.out]; simp [lookL, HNO.out, hno]
          have HBX := hide (bchain HBW1.out hbr)
          clear hno
          go_wp2_with fail
          refine bodyPost_ret (v := (.tuple #[.int .i64 0, .bool false])) (by simp [results, Tryz.results191, go_sem, *]) rfl ?_
          rw [HDD.out]
          exact ⟨rfl, HBX.out⟩
set_option maxHeartbeats 1000000 in
theorem implLookup (L : List Fd) (room : Int) (v : Value) (f : Fd) (w : World) (hr0 : Reads w v L.length 2 (fv L)) (hf : ∀ f ∈ L, f.fine) (hff : f.fine) --@OKF@
    : Calls Tryz.prog 253 #[.agg #[.int .i64 room, v], .agg #[.string f.n, .string f.v]] w fun x w' => x = .returned (.tuple #[.int .i64 (lookD room L f).1, .bool (lookD room L f).2]) ∧ Below w.heap.size w w' := by
  obtain ⟨D, hD⟩ : ∃ D, D = lookD room L f := ⟨_, rfl⟩
  rw [← hD]
  have HD := hide hD
  have HR := hide hr0
  obtain ⟨hl, ad, cap, rfl, h1, h2, h3⟩ := hr0
  have H3 := hide h3
  unfold maxLen at h2
  clear h3 hD
  go_enter Tryz.func253, Tryz.ntmps253
  go_wp2_with fail
  generalize hV : (w.alloc (.cells #[.int .i64 room, .slice ad L.length cap] 40)).alloc (.cells #[.string f.n, .string f.v] 146) = V
  have HBW : Hid (Below w.heap.size w V) := by show Below _ _ _; rw [← hV]; exact bo_alloc ((Below.refl _ _).alloc (Nat.le_refl _) _) _
  have HX : Hid (RowIs V w.heap.size 40 [.int .i64 room, .slice ad L.length cap]) := by show RowIs _ _ _ _; rw [← hV]; exact (rowIs_new w 40 [.int .i64 room, .slice ad L.length cap]).alloc _
  have HY : Hid (RowIs V (w.heap.size + 1) 146 [.string f.n, .string f.v]) := by show RowIs _ _ _ _; rw [← hV]; simpa using rowIs_new (w.alloc (.cells #[.int .i64 room, .slice ad L.length cap] 40)) 146 [.string f.n, .string f.v]
  clear hV
  refine (implTOk L room _ _ (HR.out.new HBW.out) hf).mono ?_
  rintro x w1 ⟨rfl, hb1⟩
  replace HX := hide (HX.out.new hb1)
  replace HY := hide (HY.out.new hb1)
  replace HBW := hide (bchain HBW.out hb1)
  have x1 := HX.out.cell (j := 1) rfl
  have y0 := HY.out.cell (j := 0) rfl
  have y1 := HY.out.cell (j := 1) rfl
  clear hb1
  cases hR : okT room L
  · have HDD : Hid (D = (0, false)) := by show _ = _; rw [HD.out]; simp [lookD, hR]
    go_wp2_with fail
    refine bodyPost_ret (v := (.tuple #[.int .i64 0, .bool false])) (by simp [results, Tryz.results253, go_sem, *]) rfl ?_
    rw [HDD.out]
    exact ⟨rfl, HBW.out⟩
  have HDD : Hid (D = lookL L f) := by show _ = _; rw [HD.out]; simp [lookD, hR]
  have hlen := (okT_parts hR).2.2.2.2
  go_wp2_with fail
  --@RIGHT@
  clear x1 y0 y1
  obtain ⟨V1, rfl⟩ : ∃ x : World, x = w1 := ⟨_, rfl⟩
  have HX1 := HX; have HY1 := HY; have HBW1 := HBW
  clear HX HY HBW
  go_loopw [6, 15] (fun nm i wr => ∃ (k : Nat), i = .int .i64 k ∧ nm = .int .i64 (numOf (named f) (L.take k) : Nat) ∧ k ≤ L.length ∧ numOf (alike f) (L.take k) = 0 ∧ Below V1.heap.size V1 wr) (fun _ i _ => L.length - (intOf i).toNat)
  case atStart => exact ⟨0, rfl, rfl, Nat.zero_le _, rfl, Below.refl _ _⟩
  case round =>
    obtain ⟨k, rfl, rfl, hk, hno, hbr⟩ := hrel
    have hry := HY1.out.new hbr
    have y0 := hry.cell (j := 0) rfl
    have y1 := hry.cell (j := 1) rfl
    have hyl := hry.lt
    clear hry
    by_cases hlt : k < L.length
    · obtain ⟨b, o, rfl, hbw, hc⟩ := H3.out (by omega)
      obtain ⟨s0, s1⟩ := fv_get L k hlt
      have hbx := bchain HBW1.out hbr
      have c0 : wr.cell? ⟨b, o + k * 2, none⟩ = some (.string L[k].n) := by rw [hbx.cell (p := ⟨b, o + k * 2, none⟩) hbw]; exact hc _ _ s0
      have c1 : wr.cell? ⟨b, o + k * 2 + 1, none⟩ = some (.string L[k].v) := by rw [hbx.cell (p := ⟨b, o + k * 2 + 1, none⟩) hbw]; exact hc _ _ s1
      have HBX := hide hbx
      have HBR := hide hbr
      clear hc s0 s1 hbx hbr
      have HCUT := hide (numOf_cut (alike f) L k hlt hno)
      have HNOX := hide (numOf_no (alike f) L k hlt hno)
      have HNM := hide (numOf_one (named f) L k hlt)
      have hnr : numOf (named f) (L.take k) ≤ k := by have := numOf_le (named f) (L.take k); rw [List.length_take] at this; omega
      generalize L[k] = r at *
      generalize numOf (named f) (L.take k) = nm at *
      have hkI : (k : Int) < L.length := by omega
      have hne : ¬ wr.heap.size = w.heap.size + 1 := by omega
      have hne' : ¬ w.heap.size + 1 = wr.heap.size := by omega
      go_upto_region 7 with fail
      have hbA : Below wr.heap.size wr (wr.alloc (.cells #[.string r.n, .string r.v] 146)) := (Below.refl _ _).alloc (Nat.le_refl _) _
      have hz := rowIs_new wr 146 [.string r.n, .string r.v]
      have z0 := hz.cell (j := 0) rfl
      have z1 := hz.cell (j := 1) rfl
      have y0' := (hbA.cell (p := ⟨w.heap.size + 1, 0, none⟩) hyl).trans y0
      have y1' := (hbA.cell (p := ⟨w.heap.size + 1, 1, none⟩) hyl).trans y1
      have HBR' := hide (bchain HBR.out hbA)
      have HBX' := hide (bchain HBX.out hbA)
      clear y0 y1 c0 c1 hz hbA
      change World.cell? (wr.alloc (.cells #[.string r.n, .string r.v] 146)) _ = _ at z0 z1
      generalize wr.alloc (.cells #[.string r.n, .string r.v] 146) = VR at *
      cases hp : alike f r
      · have HN1 := hide (HNOX.out hp)
        have hpf : (r.n.toList == f.n.toList) = false ∨ ((r.n.toList == f.n.toList) = true ∧ (r.v.toList == f.v.toList) = false) := by unfold alike at hp; revert hp; cases (r.n.toList == f.n.toList) <;> simp
        clear HCUT HNOX hno hp
        by_cases hz0 : nm = 0
        · subst hz0
          rcases hpf with hn | ⟨hn, hv⟩
          · have HNX : Hid (numOf (named f) (L.take (k + 1)) = 0) := by show _ = _; rw [HNM.out]; simp [named, hn]
            go_wp2_with fail
            go_roundw
            case rel => exact ⟨k + 1, by go_num, by rw [HNX.out], by omega, HN1.out, HBR'.out⟩
            case measure => simp [intOf]; omega
          · have HNX : Hid (numOf (named f) (L.take (k + 1)) = k + 1) := by show _ = _; rw [HNM.out]; simp [named, hn]
            go_wp2_with fail
            go_roundw
            case rel => exact ⟨k + 1, by go_num, by rw [HNX.out]; simp, by omega, HN1.out, HBR'.out⟩
            case measure => simp [intOf]; omega
        · have HNX : Hid (numOf (named f) (L.take (k + 1)) = nm) := by show _ = _; rw [HNM.out, if_neg hz0]
          have hzI : ¬ (nm : Int) = 0 := by omega
          rcases hpf with hn | ⟨hn, hv⟩
          · go_wp2_with fail
            go_roundw
            case rel => exact ⟨k + 1, by go_num, by rw [HNX.out], by omega, HN1.out, HBR'.out⟩
            case measure => simp [intOf]; omega
          · go_wp2_with fail
            go_roundw
            case rel => exact ⟨k + 1, by go_num, by rw [HNX.out], by omega, HN1.out, HBR'.out⟩
            case measure => simp [intOf]; omega
      · have hn : (r.n.toList == f.n.toList) = true ∧ (r.v.toList == f.v.toList) = true := by unfold alike at hp; simpa using hp
        obtain ⟨hn, hv⟩ := hn
        have HD3 : Hid (D = ((k : Int) + 1, true)) := by show _ = _; rw [HDD.out]; have h9 := HCUT.out hp; simp [lookL, h9]
        clear HCUT HNOX hno hp
        go_wp2_with fail
        refine bodyPost_ret (v := (.tuple #[.int .i64 ((k : Int) + 1), .bool true])) (by simp [results, Tryz.results253, go_sem, *]) rfl ?_
        rw [HD3.out]
        exact ⟨rfl, HBX'.out⟩
    · obtain rfl : k = L.length := by omega
      rw [List.take_length] at hno
      rw [List.take_length]
      have HD3 : Hid (D = (((numOf (named f) L : Nat) : Int), false)) := by show _ = _; rw [HDD.out]; simp [lookL, hno]
      have HBX := hide (bchain HBW1.out hbr)
      clear hno
      go_wp2_with fail
      refine bodyPost_ret (v := (.tuple #[.int .i64 (numOf (named f) L : Nat), .bool false])) (by simp [results, Tryz.results253, go_sem, *]) rfl ?_
      rw [HD3.out]
      exact ⟨rfl, HBX.out⟩
end Go.Proofs.YtllaeakeaabiaaaGreat
/- The program's Noted and Resized. -/
namespace Go.Proofs.YtllaeakeaabiaaaGreat
open Go.RowKit
set_option maxRecDepth 100000
set_option linter.unusedSimpArgs false
set_option linter.unusedVariables false

theorem put2 (b first : Nat) (L : List Fd) (f : Fd) (w : World) (h : RingAt w b first L) (hl : L.length ≤ 111) (hf : f.fine) :
    Calls Tryz.prog 254 #[.pointer (some ⟨b, 0, none⟩), .agg #[.string f.n, .string f.v]] w fun x w' => x = .returned (.tuple #[]) ∧ RingAt w' b ((first + 111) % 112) (f :: L) ∧ Turn b (b + 1) w w' := by
  have hrg := sumW_range L
  refine (putFirst1 b first L.length (ringS first L) (sumW L) f w (ringS_len _ _) h.row h.fst (by omega) hf hrg.1 (by omega)).mono ?_
  rintro x w' ⟨rfl, hr', ht⟩
  refine ⟨rfl, ⟨Nat.mod_lt _ (by omega), by simp only [List.length_cons]; omega, ?_⟩, ht⟩
  rw [← ringS_first f h.fst (by omega)]
  simp only [List.length_cons, sumW]
  rw [Int.add_comm (wt f)]
  exact hr'

set_option maxRecDepth 100000 in
set_option maxHeartbeats 4000000 in
theorem implNoted (L : List Fd) (room : Int) (v : Value) (f : Fd) (w : World) (hr0 : Reads w v L.length 2 (fv L)) (hf : ∀ f ∈ L, f.fine) (hff : f.fine) :
    Calls Tryz.prog 235 #[.agg #[.int .i64 room, v], .agg #[.string f.n, .string f.v]] w fun x w' => ∃ v', x = .returned (.tuple #[.agg #[.int .i64 (notedD room L f).1.1, v'], .bool (notedD room L f).2]) ∧ w'.ownsRow w.heap.size 146 2 v' (notedD room L f).1.2.length (fv (notedD room L f).1.2) ∧ Below w.heap.size w w' := by
  obtain ⟨D, hD⟩ : ∃ D, D = notedD room L f := ⟨_, rfl⟩
  rw [← hD]
  have HD := hide hD
  have HR := hide hr0
  obtain ⟨hl, ad, cap, rfl, h1, h2, h3⟩ := hr0
  clear h3 hD
  go_enter Tryz.func235, Tryz.ntmps235
  go_wp2_with fail
  generalize hV : ((w.alloc (.cells #[.int .i64 room, .slice ad L.length cap] 40)).alloc (.cells #[.string f.n, .string f.v] 146)).alloc (.cells #[.int .i64 0, .slice none 0 0] 40) = V
  have HBW : Hid (Below w.heap.size w V) := by show Below _ _ _; rw [← hV]; exact bo_alloc (bo_alloc ((Below.refl _ _).alloc (Nat.le_refl _) _) _) _
  have HX : Hid (RowIs V w.heap.size 40 [.int .i64 room, .slice ad L.length cap]) := by show RowIs _ _ _ _; rw [← hV]; exact ((rowIs_new w 40 [.int .i64 room, .slice ad L.length cap]).alloc _).alloc _
  have HY : Hid (RowIs V (w.heap.size + 1) 146 [.string f.n, .string f.v]) := by show RowIs _ _ _ _; rw [← hV]; exact (by simpa using rowIs_new (w.alloc (.cells #[.int .i64 room, .slice ad L.length cap] 40)) 146 [.string f.n, .string f.v] : RowIs _ (w.heap.size + 1) _ _).alloc _
  have HRR : Hid (RowIs V (w.heap.size + 1 + 1) 40 [.int .i64 0, .slice none 0 0]) := by show RowIs _ _ _ _; rw [← hV]; simpa using rowIs_new ((w.alloc (.cells #[.int .i64 room, .slice ad L.length cap] 40)).alloc (.cells #[.string f.n, .string f.v] 146)) 40 [.int .i64 0, .slice none 0 0]
  have hlV := HRR.out.lt
  clear hV
  refine (ringOf1 L room _ _ (HR.out.new HBW.out) hf).mono ?_
  rintro x w1 ⟨cs, hcl, hone, rfl, hcs, hb1⟩
  have HONE := hide hone
  have HCS := hide hcs
  have hb6 := hb1.size
  replace HX := hide (HX.out.new hb1)
  replace HY := hide (HY.out.new hb1)
  replace HRR := hide (HRR.out.new hb1)
  replace HBW := hide (bchain HBW.out hb1)
  clear hone hcs hb1
  have hb12 : Below w1.heap.size w1 ((w1.alloc (.cells ringZ.toArray 199)).setRow w1.heap.size cs.toArray) := below_setRow ((Below.refl _ _).alloc (Nat.le_refl _) _) (Nat.le_refl _) _
  have hr6 : RowIs ((w1.alloc (.cells ringZ.toArray 199)).setRow w1.heap.size cs.toArray) w1.heap.size 199 cs := rowIs_setRow (rowIs_new w1 199 ringZ)
  have HR6 := hide hr6
  have HB12 := hide hb12
  clear hr6 hb12
  cases hR : okT room L
  · have HDD : Hid (D = ((0, []), false)) := by show _ = _; rw [HD.out]; simp [notedD, hR]
    go_upto_region 2 with (first | (refine wpList_alloc_row (by rfl) 199 (by rfl) ringZ ringZ_zero.1 ?_) | (refine wpList_store_row (by rfl) 199 _ _ (by rfl) (w1.heap.size) (cs) (by rfl) (by rfl) 199 (ringZ) (rowIs_new w1 199 ringZ) (by rw [hcl]; exact ringZ_zero.2) (Eq.trans ringZ_len (Eq.symm hcl)) (HONE.out) ?_))
    generalize (w1.alloc (.cells ringZ.toArray 199)).setRow w1.heap.size cs.toArray = w2 at *
    have hb12 := HB12.out
    replace HX := hide (HX.out.new hb12)
    replace HY := hide (HY.out.new hb12)
    replace HRR := hide (HRR.out.new hb12)
    replace HBW := hide (bchain HBW.out hb12)
    have r0 := HRR.out.cell (j := 0) rfl
    have r1 := HRR.out.cell (j := 1) rfl
    have r2 := HRR.out.frozen 0
    have r3 := HRR.out.frozen 1
    go_wp2_with fail
    refine bodyPost_ret (v := (.tuple #[.agg #[.int .i64 0, .slice none 0 0], .bool false])) (by simp [results, Tryz.results235, go_sem, *]) rfl ?_
    rw [HDD.out]
    exact ⟨_, rfl, own_nil _ _ _, (HBW.out.setCell (show w.heap.size ≤ w.heap.size + 1 + 1 by omega) _).setCell (show w.heap.size ≤ w.heap.size + 1 + 1 by omega) _⟩
  obtain ⟨hrm0, hrm1, hall, hsum, hlen⟩ := okT_parts hR
  have HALL := hide hall
  have hcs := HCS.out hR
  subst hcs
  clear hall
  go_upto_region 2 with (first | (refine wpList_alloc_row (by rfl) 199 (by rfl) ringZ ringZ_zero.1 ?_) | (refine wpList_store_row (by rfl) 199 _ _ (by rfl) (w1.heap.size) ((rC (ringS 0 L) 0 L.length (sumW L))) (by rfl) (by rfl) 199 (ringZ) (rowIs_new w1 199 ringZ) (by rw [hcl]; exact ringZ_zero.2) (Eq.trans ringZ_len (Eq.symm hcl)) (HONE.out) ?_))
  generalize (w1.alloc (.cells ringZ.toArray 199)).setRow w1.heap.size (rC (ringS 0 L) 0 L.length (sumW L)).toArray = w2 at *
  have hb12 := HB12.out
  have HRA : Hid (RingAt w2 w1.heap.size 0 L) := ⟨by omega, by omega, HR6.out⟩
  replace HX := hide (HX.out.new hb12)
  replace HY := hide (HY.out.new hb12)
  replace HRR := hide (HRR.out.new hb12)
  replace HBW := hide (bchain HBW.out hb12)
  clear hb12 HB12 HR6 HONE HCS hcl
  have x0 := HX.out.cell (j := 0) rfl
  have x1 := HX.out.cell (j := 1) rfl
  have y0 := HY.out.cell (j := 0) rfl
  have y1 := HY.out.cell (j := 1) rfl
  have r0 := HRR.out.cell (j := 0) rfl
  have r1 := HRR.out.cell (j := 1) rfl
  have r2 := HRR.out.frozen 0
  have r3 := HRR.out.frozen 1
  cases hok : okF f
  · have HDD : Hid (D = ((room, L), false)) := by show _ = _; rw [HD.out]; simp [notedD, hR, hok]
    go_wp2_with fail
    refine (implRight f _ hff).mono ?_; rw [hok]; rintro x w3 ⟨rfl, hb3⟩
    replace HX := hide (HX.out.new hb3)
    replace HY := hide (HY.out.new hb3)
    replace HRR := hide (HRR.out.new hb3)
    replace HBW := hide (bchain HBW.out hb3)
    replace HRA := hide (HRA.out.new hb3)
    clear x0 x1 y0 y1 r0 r1 r2 r3
    clear hb3
    have x0 := HX.out.cell (j := 0) rfl
    have x1 := HX.out.cell (j := 1) rfl
    have y0 := HY.out.cell (j := 0) rfl
    have y1 := HY.out.cell (j := 1) rfl
    have r0 := HRR.out.cell (j := 0) rfl
    have r1 := HRR.out.cell (j := 1) rfl
    have r2 := HRR.out.frozen 0
    have r3 := HRR.out.frozen 1
    go_wp2_with fail
    clear x0 x1 y0 y1 r0 r1 r2 r3
    refine (table1 w1.heap.size 0 L room _ HRA.out HALL.out).mono ?_
    rintro x w9 ⟨v9, rfl, ho9, hb9⟩
    obtain ⟨a9, p9, rfl, _⟩ := owns_form ho9
    have hov : ∀ q, (Value.slice a9 (L).length p9).ownBlock = some q → w.heap.size + 1 + 1 + 1 ≤ q := fun q hq => by have h1 := (ho9.lt q hq).1; have h2 := HRR.out.lt; omega
    have HO := hide ho9
    clear ho9
    replace HX := hide (HX.out.new hb9)
    replace HY := hide (HY.out.new hb9)
    replace HRR := hide (HRR.out.new hb9)
    replace HBW := hide (bchain HBW.out hb9)
    clear hb9
    have r0 := HRR.out.cell (j := 0) rfl
    have r1 := HRR.out.cell (j := 1) rfl
    have r2 := HRR.out.frozen 0
    have r3 := HRR.out.frozen 1
    generalize hgl : (L).length = gl at *
    go_wp2_with fail
    refine bodyPost_ret (v := (.tuple #[.agg #[.int .i64 (room), .slice a9 gl p9], .bool false])) (by simp [results, Tryz.results235, go_sem, *]) rfl ?_
    rw [HDD.out]
    subst hgl
    exact ⟨_, rfl, (owns_base (owns_far (w.heap.size + 1 + 1 + 1) (owns_far (w.heap.size + 1 + 1 + 1) HO.out hov _ _ (show w.heap.size + 1 + 1 < w.heap.size + 1 + 1 + 1 by omega)) hov _ _ (show w.heap.size + 1 + 1 < w.heap.size + 1 + 1 + 1 by omega)) (fun q hq => by have := hov q hq; omega)), (HBW.out.setCell (show w.heap.size ≤ w.heap.size + 1 + 1 by omega) _).setCell (show w.heap.size ≤ w.heap.size + 1 + 1 by omega) _⟩
  · have HDD : Hid (D = ((room, shr room (f :: L)), true)) := by show _ = _; rw [HD.out]; simp [notedD, hR, hok]
    go_wp2_with fail
    refine (implRight f _ hff).mono ?_; rw [hok]; rintro x w3 ⟨rfl, hb3⟩
    replace HX := hide (HX.out.new hb3)
    replace HY := hide (HY.out.new hb3)
    replace HRR := hide (HRR.out.new hb3)
    replace HBW := hide (bchain HBW.out hb3)
    replace HRA := hide (HRA.out.new hb3)
    clear x0 x1 y0 y1 r0 r1 r2 r3
    clear hb3
    have x0 := HX.out.cell (j := 0) rfl
    have x1 := HX.out.cell (j := 1) rfl
    have y0 := HY.out.cell (j := 0) rfl
    have y1 := HY.out.cell (j := 1) rfl
    have r0 := HRR.out.cell (j := 0) rfl
    have r1 := HRR.out.cell (j := 1) rfl
    have r2 := HRR.out.frozen 0
    have r3 := HRR.out.frozen 1
    go_wp2_with fail
    refine (put2 w1.heap.size 0 L f _ HRA.out hlen hff).mono ?_; rintro x w4 ⟨rfl, hra4, ht4⟩
    replace HX := hide (HX.out.kept (ht4.block _ HX.out.lt (by omega)))
    replace HY := hide (HY.out.kept (ht4.block _ HY.out.lt (by omega)))
    replace HRR := hide (HRR.out.kept (ht4.block _ HRR.out.lt (by omega)))
    replace HBW := hide (HBW.out.trans (ht4.below (by omega) HBW.out.size))
    clear x0 x1 y0 y1 r0 r1 r2 r3
    have HRA4 := hide hra4
    clear hra4 ht4
    have HALL2 : Hid (∀ g ∈ f :: L, okF g = true) := fun g hg => by rcases List.mem_cons.1 hg with rfl | hg; exact hok; exact HALL.out g hg
    have x0 := HX.out.cell (j := 0) rfl
    have x1 := HX.out.cell (j := 1) rfl
    have y0 := HY.out.cell (j := 0) rfl
    have y1 := HY.out.cell (j := 1) rfl
    have r0 := HRR.out.cell (j := 0) rfl
    have r1 := HRR.out.cell (j := 1) rfl
    have r2 := HRR.out.frozen 0
    have r3 := HRR.out.frozen 1
    go_wp2_with fail
    refine (fit1 w1.heap.size _ (f :: L) room _ HRA4.out HALL2.out hrm0).mono ?_; rintro x w5 ⟨rfl, hra5, ht5⟩
    replace HX := hide (HX.out.kept (ht5.block _ HX.out.lt (by omega)))
    replace HY := hide (HY.out.kept (ht5.block _ HY.out.lt (by omega)))
    replace HRR := hide (HRR.out.kept (ht5.block _ HRR.out.lt (by omega)))
    replace HBW := hide (HBW.out.trans (ht5.below (by omega) HBW.out.size))
    clear x0 x1 y0 y1 r0 r1 r2 r3
    have HRA5 := hide hra5
    clear hra5 ht5
    have x0 := HX.out.cell (j := 0) rfl
    have x1 := HX.out.cell (j := 1) rfl
    have y0 := HY.out.cell (j := 0) rfl
    have y1 := HY.out.cell (j := 1) rfl
    have r0 := HRR.out.cell (j := 0) rfl
    have r1 := HRR.out.cell (j := 1) rfl
    have r2 := HRR.out.frozen 0
    have r3 := HRR.out.frozen 1
    go_wp2_with fail
    clear x0 x1 y0 y1 r0 r1 r2 r3
    refine (table1 w1.heap.size _ (shr room (f :: L)) room _ HRA5.out (shr_all HALL2.out)).mono ?_
    rintro x w9 ⟨v9, rfl, ho9, hb9⟩
    obtain ⟨a9, p9, rfl, _⟩ := owns_form ho9
    have hov : ∀ q, (Value.slice a9 ((shr room (f :: L))).length p9).ownBlock = some q → w.heap.size + 1 + 1 + 1 ≤ q := fun q hq => by have h1 := (ho9.lt q hq).1; have h2 := HRR.out.lt; omega
    have HO := hide ho9
    clear ho9
    replace HX := hide (HX.out.new hb9)
    replace HY := hide (HY.out.new hb9)
    replace HRR := hide (HRR.out.new hb9)
    replace HBW := hide (bchain HBW.out hb9)
    clear hb9
    have r0 := HRR.out.cell (j := 0) rfl
    have r1 := HRR.out.cell (j := 1) rfl
    have r2 := HRR.out.frozen 0
    have r3 := HRR.out.frozen 1
    generalize hgl : ((shr room (f :: L))).length = gl at *
    go_wp2_with fail
    refine bodyPost_ret (v := (.tuple #[.agg #[.int .i64 (room), .slice a9 gl p9], .bool true])) (by simp [results, Tryz.results235, go_sem, *]) rfl ?_
    rw [HDD.out]
    subst hgl
    exact ⟨_, rfl, (owns_base (owns_far (w.heap.size + 1 + 1 + 1) (owns_far (w.heap.size + 1 + 1 + 1) HO.out hov _ _ (show w.heap.size + 1 + 1 < w.heap.size + 1 + 1 + 1 by omega)) hov _ _ (show w.heap.size + 1 + 1 < w.heap.size + 1 + 1 + 1 by omega)) (fun q hq => by have := hov q hq; omega)), (HBW.out.setCell (show w.heap.size ≤ w.heap.size + 1 + 1 by omega) _).setCell (show w.heap.size ≤ w.heap.size + 1 + 1 by omega) _⟩

set_option maxRecDepth 100000 in
set_option maxHeartbeats 4000000 in
theorem implResized (L : List Fd) (room : Int) (v : Value) (r : Int) (w : World) (hr0 : Reads w v L.length 2 (fv L)) (hf : ∀ f ∈ L, f.fine) :
    Calls Tryz.prog 165 #[.agg #[.int .i64 room, v], .int .i64 r] w fun x w' => ∃ v', x = .returned (.tuple #[.agg #[.int .i64 (resizedD room L r).1.1, v'], .bool (resizedD room L r).2]) ∧ w'.ownsRow w.heap.size 146 2 v' (resizedD room L r).1.2.length (fv (resizedD room L r).1.2) ∧ Below w.heap.size w w' := by
  obtain ⟨D, hD⟩ : ∃ D, D = resizedD room L r := ⟨_, rfl⟩
  rw [← hD]
  have HD := hide hD
  have HR := hide hr0
  obtain ⟨hl, ad, cap, rfl, h1, h2, h3⟩ := hr0
  clear h3 hD
  go_enter Tryz.func165, Tryz.ntmps165
  go_wp2_with fail
  generalize hV : (w.alloc (.cells #[.int .i64 room, .slice ad L.length cap] 40)).alloc (.cells #[.int .i64 0, .slice none 0 0] 40) = V
  have HBW : Hid (Below w.heap.size w V) := by show Below _ _ _; rw [← hV]; exact bo_alloc ((Below.refl _ _).alloc (Nat.le_refl _) _) _
  have HX : Hid (RowIs V w.heap.size 40 [.int .i64 room, .slice ad L.length cap]) := by show RowIs _ _ _ _; rw [← hV]; exact (rowIs_new w 40 [.int .i64 room, .slice ad L.length cap]).alloc _
  have HRR : Hid (RowIs V (w.heap.size + 1) 40 [.int .i64 0, .slice none 0 0]) := by show RowIs _ _ _ _; rw [← hV]; simpa using rowIs_new (w.alloc (.cells #[.int .i64 room, .slice ad L.length cap] 40)) 40 [.int .i64 0, .slice none 0 0]
  have hlV := HRR.out.lt
  clear hV
  refine (ringOf1 L room _ _ (HR.out.new HBW.out) hf).mono ?_
  rintro x w1 ⟨cs, hcl, hone, rfl, hcs, hb1⟩
  have HONE := hide hone
  have HCS := hide hcs
  have hb6 := hb1.size
  replace HX := hide (HX.out.new hb1)
  replace HRR := hide (HRR.out.new hb1)
  replace HBW := hide (bchain HBW.out hb1)
  clear hone hcs hb1
  have hb12 : Below w1.heap.size w1 ((w1.alloc (.cells ringZ.toArray 199)).setRow w1.heap.size cs.toArray) := below_setRow ((Below.refl _ _).alloc (Nat.le_refl _) _) (Nat.le_refl _) _
  have hr6 : RowIs ((w1.alloc (.cells ringZ.toArray 199)).setRow w1.heap.size cs.toArray) w1.heap.size 199 cs := rowIs_setRow (rowIs_new w1 199 ringZ)
  have HR6 := hide hr6
  have HB12 := hide hb12
  clear hr6 hb12
  cases hR : okT room L
  · have HDD : Hid (D = ((0, []), false)) := by show _ = _; rw [HD.out]; simp [resizedD, hR]
    go_upto_region 2 with (first | (refine wpList_alloc_row (by rfl) 199 (by rfl) ringZ ringZ_zero.1 ?_) | (refine wpList_store_row (by rfl) 199 _ _ (by rfl) (w1.heap.size) (cs) (by rfl) (by rfl) 199 (ringZ) (rowIs_new w1 199 ringZ) (by rw [hcl]; exact ringZ_zero.2) (Eq.trans ringZ_len (Eq.symm hcl)) (HONE.out) ?_))
    generalize (w1.alloc (.cells ringZ.toArray 199)).setRow w1.heap.size cs.toArray = w2 at *
    have hb12 := HB12.out
    replace HX := hide (HX.out.new hb12)
    replace HRR := hide (HRR.out.new hb12)
    replace HBW := hide (bchain HBW.out hb12)
    have r0 := HRR.out.cell (j := 0) rfl
    have r1 := HRR.out.cell (j := 1) rfl
    have r2 := HRR.out.frozen 0
    have r3 := HRR.out.frozen 1
    go_wp2_with fail
    refine bodyPost_ret (v := (.tuple #[.agg #[.int .i64 0, .slice none 0 0], .bool false])) (by simp [results, Tryz.results165, go_sem, *]) rfl ?_
    rw [HDD.out]
    exact ⟨_, rfl, own_nil _ _ _, (HBW.out.setCell (show w.heap.size ≤ w.heap.size + 1 by omega) _).setCell (show w.heap.size ≤ w.heap.size + 1 by omega) _⟩
  obtain ⟨hrm0, hrm1, hall, hsum, hlen⟩ := okT_parts hR
  have HALL := hide hall
  have hcs := HCS.out hR
  subst hcs
  clear hall
  go_upto_region 2 with (first | (refine wpList_alloc_row (by rfl) 199 (by rfl) ringZ ringZ_zero.1 ?_) | (refine wpList_store_row (by rfl) 199 _ _ (by rfl) (w1.heap.size) ((rC (ringS 0 L) 0 L.length (sumW L))) (by rfl) (by rfl) 199 (ringZ) (rowIs_new w1 199 ringZ) (by rw [hcl]; exact ringZ_zero.2) (Eq.trans ringZ_len (Eq.symm hcl)) (HONE.out) ?_))
  generalize (w1.alloc (.cells ringZ.toArray 199)).setRow w1.heap.size (rC (ringS 0 L) 0 L.length (sumW L)).toArray = w2 at *
  have hb12 := HB12.out
  have HRA : Hid (RingAt w2 w1.heap.size 0 L) := ⟨by omega, by omega, HR6.out⟩
  replace HX := hide (HX.out.new hb12)
  replace HRR := hide (HRR.out.new hb12)
  replace HBW := hide (bchain HBW.out hb12)
  clear hb12 HB12 HR6 HONE HCS hcl
  have x0 := HX.out.cell (j := 0) rfl
  have x1 := HX.out.cell (j := 1) rfl
  have r0 := HRR.out.cell (j := 0) rfl
  have r1 := HRR.out.cell (j := 1) rfl
  have r2 := HRR.out.frozen 0
  have r3 := HRR.out.frozen 1
  cases hok : inB r 0 1000
  · have HDD : Hid (D = ((room, L), false)) := by show _ = _; rw [HD.out]; simp [resizedD, hR, hok]
    go_wp2_with fail
    refine (implRoom r _).mono ?_; rw [hok]; rintro x w3 ⟨rfl, rfl⟩
    go_wp2_with fail
    clear x0 x1 r0 r1 r2 r3
    refine (table1 w1.heap.size 0 L room _ HRA.out HALL.out).mono ?_
    rintro x w9 ⟨v9, rfl, ho9, hb9⟩
    obtain ⟨a9, p9, rfl, _⟩ := owns_form ho9
    have hov : ∀ q, (Value.slice a9 (L).length p9).ownBlock = some q → w.heap.size + 1 + 1 ≤ q := fun q hq => by have h1 := (ho9.lt q hq).1; have h2 := HRR.out.lt; omega
    have HO := hide ho9
    clear ho9
    replace HX := hide (HX.out.new hb9)
    replace HRR := hide (HRR.out.new hb9)
    replace HBW := hide (bchain HBW.out hb9)
    clear hb9
    have r0 := HRR.out.cell (j := 0) rfl
    have r1 := HRR.out.cell (j := 1) rfl
    have r2 := HRR.out.frozen 0
    have r3 := HRR.out.frozen 1
    generalize hgl : (L).length = gl at *
    go_wp2_with fail
    refine bodyPost_ret (v := (.tuple #[.agg #[.int .i64 (room), .slice a9 gl p9], .bool false])) (by simp [results, Tryz.results165, go_sem, *]) rfl ?_
    rw [HDD.out]
    subst hgl
    exact ⟨_, rfl, (owns_base (owns_far (w.heap.size + 1 + 1) (owns_far (w.heap.size + 1 + 1) HO.out hov _ _ (show w.heap.size + 1 < w.heap.size + 1 + 1 by omega)) hov _ _ (show w.heap.size + 1 < w.heap.size + 1 + 1 by omega)) (fun q hq => by have := hov q hq; omega)), (HBW.out.setCell (show w.heap.size ≤ w.heap.size + 1 by omega) _).setCell (show w.heap.size ≤ w.heap.size + 1 by omega) _⟩
  · have HDD : Hid (D = ((r, shr r L), true)) := by show _ = _; rw [HD.out]; simp [resizedD, hR, hok]
    go_wp2_with fail
    refine (implRoom r _).mono ?_; rw [hok]; rintro x w3 ⟨rfl, rfl⟩
    go_wp2_with fail
    refine (fit1 w1.heap.size _ L r _ HRA.out HALL.out (inB_true hok).1).mono ?_; rintro x w5 ⟨rfl, hra5, ht5⟩
    replace HX := hide (HX.out.kept (ht5.block _ HX.out.lt (by omega)))
    replace HRR := hide (HRR.out.kept (ht5.block _ HRR.out.lt (by omega)))
    replace HBW := hide (HBW.out.trans (ht5.below (by omega) HBW.out.size))
    clear x0 x1 r0 r1 r2 r3
    have HRA5 := hide hra5
    clear hra5 ht5
    have x0 := HX.out.cell (j := 0) rfl
    have x1 := HX.out.cell (j := 1) rfl
    have r0 := HRR.out.cell (j := 0) rfl
    have r1 := HRR.out.cell (j := 1) rfl
    have r2 := HRR.out.frozen 0
    have r3 := HRR.out.frozen 1
    go_wp2_with fail
    clear x0 x1 r0 r1 r2 r3
    refine (table1 w1.heap.size _ (shr r L) r _ HRA5.out (shr_all HALL.out)).mono ?_
    rintro x w9 ⟨v9, rfl, ho9, hb9⟩
    obtain ⟨a9, p9, rfl, _⟩ := owns_form ho9
    have hov : ∀ q, (Value.slice a9 ((shr r L)).length p9).ownBlock = some q → w.heap.size + 1 + 1 ≤ q := fun q hq => by have h1 := (ho9.lt q hq).1; have h2 := HRR.out.lt; omega
    have HO := hide ho9
    clear ho9
    replace HX := hide (HX.out.new hb9)
    replace HRR := hide (HRR.out.new hb9)
    replace HBW := hide (bchain HBW.out hb9)
    clear hb9
    have r0 := HRR.out.cell (j := 0) rfl
    have r1 := HRR.out.cell (j := 1) rfl
    have r2 := HRR.out.frozen 0
    have r3 := HRR.out.frozen 1
    generalize hgl : ((shr r L)).length = gl at *
    go_wp2_with fail
    refine bodyPost_ret (v := (.tuple #[.agg #[.int .i64 (r), .slice a9 gl p9], .bool true])) (by simp [results, Tryz.results165, go_sem, *]) rfl ?_
    rw [HDD.out]
    subst hgl
    exact ⟨_, rfl, (owns_base (owns_far (w.heap.size + 1 + 1) (owns_far (w.heap.size + 1 + 1) HO.out hov _ _ (show w.heap.size + 1 < w.heap.size + 1 + 1 by omega)) hov _ _ (show w.heap.size + 1 < w.heap.size + 1 + 1 by omega)) (fun q hq => by have := hov q hq; omega)), (HBW.out.setCell (show w.heap.size ≤ w.heap.size + 1 by omega) _).setCell (show w.heap.size ≤ w.heap.size + 1 by omega) _⟩

end Go.Proofs.YtllaeakeaabiaaaGreat
