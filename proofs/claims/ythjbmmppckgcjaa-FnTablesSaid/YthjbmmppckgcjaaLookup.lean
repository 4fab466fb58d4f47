/- Lookup of the program and of the model, in plain words. -/
import Derived.Test.YthjbmmppckgcjaaImplTOk
import Derived.Test.YthjbmmppckgcjaaNotedD
import Derived.Laws.StructEq
import Derived.Deep.Cut

namespace Go.Proofs.Ythjbmmppckgcjaa
open Go.RowKit
set_option linter.unusedSimpArgs false
set_option linter.unusedVariables false
/-- Is a row alike? Has it this Name? -/
def alike (f r : Fd) : Bool := (r.n.toList == f.n.toList) && (r.v.toList == f.v.toList)
def named (f r : Fd) : Bool := r.n.toList == f.n.toList
/-- The number of the first row of which p speaks; 0: none. -/
def numOf (p : Fd → Bool) : List Fd → Nat
  | [] => 0
  | r :: L => if p r then 1 else (if numOf p L = 0 then 0 else numOf p L + 1)
def lookL (L : List Fd) (f : Fd) : Int × Bool := if numOf (alike f) L = 0 then ((numOf (named f) L : Int), false) else ((numOf (alike f) L : Int), true)
def lookD (room : Int) (L : List Fd) (f : Fd) : Int × Bool := if okT room L then lookL L f else (0, false)

theorem numOf_app (p : Fd → Bool) (A B : List Fd) : numOf p (A ++ B) = if numOf p A = 0 then (if numOf p B = 0 then 0 else A.length + numOf p B) else numOf p A := by
  induction A with
  | nil => simp [numOf]
  | cons r A ih =>
    simp only [List.cons_append, numOf, ih]
    by_cases h : p r
    · simp [h]
    · simp only [h, if_false, Bool.false_eq_true]
      by_cases h2 : numOf p A = 0
      · simp only [h2, if_true]
        by_cases h3 : numOf p B = 0
        · simp [h3]
        · simp only [h3, if_false]; rw [if_neg (by omega)]; simp; omega
      · simp [h2]
theorem numOf_one (p : Fd → Bool) (L : List Fd) (k : Nat) (hk : k < L.length) : numOf p (L.take (k + 1)) = if numOf p (L.take k) = 0 then (if p L[k] then k + 1 else 0) else numOf p (L.take k) := by
  rw [List.take_succ_eq_append_getElem hk, numOf_app]
  have h1 : (L.take k).length = k := by rw [List.length_take]; omega
  simp only [h1, numOf]
  by_cases h : p L[k] <;> simp [h]
theorem numOf_cut (p : Fd → Bool) (L : List Fd) (k : Nat) (hk : k < L.length) (h0 : numOf p (L.take k) = 0) (h1 : p L[k] = true) : numOf p L = k + 1 := by
  have h := numOf_one p L k hk
  rw [if_pos h0, if_pos h1] at h
  conv => lhs; rw [← List.take_append_drop (k + 1) L]
  rw [numOf_app, h]; simp
theorem numOf_no (p : Fd → Bool) (L : List Fd) (k : Nat) (hk : k < L.length) (h0 : numOf p (L.take k) = 0) (h1 : p L[k] = false) : numOf p (L.take (k + 1)) = 0 := by
  rw [numOf_one p L k hk, if_pos h0, h1]; rfl
theorem numOf_le (p : Fd → Bool) (L : List Fd) : numOf p L ≤ L.length := by
  induction L with
  | nil => simp [numOf]
  | cons r L ih => simp only [numOf, List.length_cons]; split; omega; split <;> omega

set_option maxHeartbeats 1000000 in
theorem specLookL (L : List Fd) (room : Int) (v : Value) (f : Fd) (w : World) (hr0 : Reads w v L.length 2 (fv L)) (hL : L.length ≤ 111) :
    Calls Try.prog 56 #[.agg #[.int .i64 room, v], .agg #[.string f.n, .string f.v]] w fun x w' => x = .returned (.tuple #[.int .i64 (lookL L f).1, .bool (lookL L f).2]) ∧ Below w.heap.size w w' := by
  obtain ⟨D, hD⟩ : ∃ D, D = lookL L f := ⟨_, rfl⟩
  rw [← hD]
  have HD := hide hD
  obtain ⟨hl, ad, cap, rfl, h1, h2, h3⟩ := hr0
  have H3 := hide h3
  unfold maxLen at h2
  clear h3 hD
  go_enter Try.func56, Try.ntmps56
  go_wp2_with fail
  generalize hV : (w.alloc (.cells #[.int .i64 room, .slice ad L.length cap] 26)).alloc (.cells #[.string f.n, .string f.v] 28) = V
  have HBW : Hid (Below w.heap.size w V) := by show Below _ _ _; rw [← hV]; exact bo_alloc ((Below.refl _ _).alloc (Nat.le_refl _) _) _
  have HX : Hid (RowIs V w.heap.size 26 [.int .i64 room, .slice ad L.length cap]) := by show RowIs _ _ _ _; rw [← hV]; exact (rowIs_new w 26 [.int .i64 room, .slice ad L.length cap]).alloc _
  have HY : Hid (RowIs V (w.heap.size + 1) 28 [.string f.n, .string f.v]) := by show RowIs _ _ _ _; rw [← hV]; simpa using rowIs_new (w.alloc (.cells #[.int .i64 room, .slice ad L.length cap] 26)) 28 [.string f.n, .string f.v]
  clear hV
  go_loopw [6] (fun i wr => ∃ (k : Nat), i = .int .i64 k ∧ k ≤ L.length ∧ numOf (alike f) (L.take k) = 0 ∧ Below V.heap.size V wr) (fun i _ => L.length - (intOf i).toNat)
  case atStart => exact ⟨0, rfl, Nat.zero_le _, rfl, Below.refl _ _⟩
  case round =>
    obtain ⟨k, rfl, hk, hno, hbr⟩ := hrel
    have x0 := (HX.out.new hbr).cell (j := 0) rfl
    have x1 := (HX.out.new hbr).cell (j := 1) rfl
    have y0 := (HY.out.new hbr).cell (j := 0) rfl
    have y1 := (HY.out.new hbr).cell (j := 1) rfl
    by_cases hlt : k < L.length
    · obtain ⟨b, o, rfl, hbw, hc⟩ := H3.out (by omega)
      obtain ⟨s0, s1⟩ := fv_get L k hlt
      have hbx := bchain HBW.out hbr
      have c0 : wr.cell? ⟨b, o + k * 2, none⟩ = some (.string L[k].n) := by rw [hbx.cell (p := ⟨b, o + k * 2, none⟩) hbw]; exact hc _ _ s0
      have c1 : wr.cell? ⟨b, o + k * 2 + 1, none⟩ = some (.string L[k].v) := by rw [hbx.cell (p := ⟨b, o + k * 2 + 1, none⟩) hbw]; exact hc _ _ s1
      have HBX := hide hbx
      clear hc s0 s1 hbx
      have HCUT := hide (numOf_cut (alike f) L k hlt hno)
      have HNOX := hide (numOf_no (alike f) L k hlt hno)
      generalize L[k] = r at *
      have hkI : (k : Int) < L.length := by omega
      cases hp : alike f r
      · have HN1 := hide (HNOX.out hp)
        have HBR := hide hbr
        have hpf : (r.n.toList == f.n.toList) = false ∨ ((r.n.toList == f.n.toList) = true ∧ (r.v.toList == f.v.toList) = false) := by unfold alike at hp; revert hp; cases (r.n.toList == f.n.toList) <;> simp
        clear HCUT HNOX hno hbr hp
        rcases hpf with hn | ⟨hn, hv⟩
        · go_wp2_with fail
          go_quiet (fail)
          go_wp2_with fail
          go_roundw
          case rel => exact ⟨k + 1, by go_num, by omega, HN1.out, bo_drewN _ HBR.out⟩
          case measure => simp [intOf]; omega
        · go_wp2_with fail
          go_quiet (fail)
          go_wp2_with fail
          go_roundw
          case rel => exact ⟨k + 1, by go_num, by omega, HN1.out, bo_drewN _ HBR.out⟩
          case measure => simp [intOf]; omega
      · have hn : (r.n.toList == f.n.toList) = true ∧ (r.v.toList == f.v.toList) = true := by unfold alike at hp; simpa using hp
        obtain ⟨hn, hv⟩ := hn
        have HDD : Hid (D = ((k : Int) + 1, true)) := by show _ = _; rw [HD.out]; have h9 := HCUT.out hp; simp [lookL, h9]
        clear HCUT HNOX hno hp
        go_wp2_with fail
        go_quiet (fail)
        go_wp2_with fail
        refine bodyPost_ret (v := (.tuple #[.int .i64 ((k : Int) + 1), .bool true])) (by simp [results, Try.results56, go_sem, *]) rfl ?_
        rw [HDD.out]
        exact ⟨rfl, bo_drewN _ HBX.out⟩
    · obtain rfl : k = L.length := by omega
      rw [List.take_length] at hno
      have HNO := hide hno
      have HBW1 := hide (bchain HBW.out hbr)
      have HX1 := hide (HX.out.new hbr); have HY1 := hide (HY.out.new hbr)
      clear hno HX HY HBW
      go_wp2_with fail
      clear x0 x1 y0 y1 hbr
      obtain ⟨V1, rfl⟩ : ∃ x : World, x = wr := ⟨_, rfl⟩
      go_loopw [7] (fun i wr => ∃ (k : Nat), i = .int .i64 k ∧ k ≤ L.length ∧ numOf (named f) (L.take k) = 0 ∧ Below V1.heap.size V1 wr) (fun i _ => L.length - (intOf i).toNat)
      case atStart => exact ⟨0, rfl, Nat.zero_le _, rfl, Below.refl _ _⟩
      case round =>
        obtain ⟨k, rfl, hk, hno, hbr⟩ := hrel
        have x0 := (HX1.out.new hbr).cell (j := 0) rfl
        have x1 := (HX1.out.new hbr).cell (j := 1) rfl
        have y0 := (HY1.out.new hbr).cell (j := 0) rfl
        have y1 := (HY1.out.new hbr).cell (j := 1) rfl
        by_cases hlt : k < L.length
        · obtain ⟨b, o, rfl, hbw, hc⟩ := H3.out (by omega)
          obtain ⟨s0, s1⟩ := fv_get L k hlt
          have hbx := bchain HBW1.out hbr
          have c0 : wr.cell? ⟨b, o + k * 2, none⟩ = some (.string L[k].n) := by rw [hbx.cell (p := ⟨b, o + k * 2, none⟩) hbw]; exact hc _ _ s0
          have c1 : wr.cell? ⟨b, o + k * 2 + 1, none⟩ = some (.string L[k].v) := by rw [hbx.cell (p := ⟨b, o + k * 2 + 1, none⟩) hbw]; exact hc _ _ s1
          have HBX := hide hbx
          clear hc s0 s1 hbx
          have HCUT := hide (numOf_cut (named f) L k hlt hno)
          have HNOX := hide (numOf_no (named f) L k hlt hno)
          generalize L[k] = r at *
          have hkI : (k : Int) < L.length := by omega
          cases hp : named f r
          · have HN1 := hide (HNOX.out hp)
            have HBR := hide hbr
            have hn : (r.n.toList == f.n.toList) = false := hp
            clear HCUT HNOX hno hbr hp
            go_wp2_with fail
            go_quiet (fail)
            go_wp2_with fail
            go_roundw
            case rel => exact ⟨k + 1, by go_num, by omega, HN1.out, bo_drewN _ HBR.out⟩
            case measure => simp [intOf]; omega
          · have hn : (r.n.toList == f.n.toList) = true := hp
            have HDD : Hid (D = ((k : Int) + 1, false)) := by show _ = _; rw [HD.out]; have h9 := HCUT.out hp; simp [lookL, HNO.out, h9]
            clear HCUT HNOX hno hp
            go_wp2_with fail
            go_quiet (fail)
            go_wp2_with fail
            refine bodyPost_ret (v := (.tuple #[.int .i64 ((k : Int) + 1), .bool false])) (by simp [results, Try.results56, go_sem, *]) rfl ?_
            rw [HDD.out]
            exact ⟨rfl, bo_drewN _ HBX.out⟩
        · obtain rfl : k = L.length := by omega
          rw [List.take_length] at hno
          have HDD : Hid (D = (0, false)) := by show _ = _; rw [HD.out]; simp [lookL, HNO.out, hno]
          have HBX := hide (bchain HBW1.out hbr)
          clear hno
          go_wp2_with fail
          refine bodyPost_ret (v := (.tuple #[.int .i64 0, .bool false])) (by simp [results, Try.results56, go_sem, *]) rfl ?_
          rw [HDD.out]
          exact ⟨rfl, HBX.out⟩
theorem specLookup (L : List Fd) (room : Int) (v : Value) (f : Fd) (w : World) (hr0 : Reads w v L.length 2 (fv L)) (hf : ∀ f ∈ L, f.fine) :
    Calls Try.prog 26 #[.agg #[.int .i64 room, v], .agg #[.string f.n, .string f.v]] w fun x w' => x = .returned (.tuple #[.int .i64 (lookD room L f).1, .bool (lookD room L f).2]) ∧ Below w.heap.size w w' := by
  obtain ⟨D, hD⟩ : ∃ D, D = lookD room L f := ⟨_, rfl⟩
  rw [← hD]
  have HD := hide hD
  have HR := hide hr0
  obtain ⟨hl, ad, cap, rfl, h1, h2, h3⟩ := hr0
  clear h3 hD
  go_enter Try.func26, Try.ntmps26
  go_wp2_with fail
  generalize hV : (w.alloc (.cells #[.int .i64 room, .slice ad L.length cap] 26)).alloc (.cells #[.string f.n, .string f.v] 28) = V
  have HBW : Hid (Below w.heap.size w V) := by show Below _ _ _; rw [← hV]; exact bo_alloc ((Below.refl _ _).alloc (Nat.le_refl _) _) _
  have HX : Hid (RowIs V w.heap.size 26 [.int .i64 room, .slice ad L.length cap]) := by show RowIs _ _ _ _; rw [← hV]; exact (rowIs_new w 26 [.int .i64 room, .slice ad L.length cap]).alloc _
  have HY : Hid (RowIs V (w.heap.size + 1) 28 [.string f.n, .string f.v]) := by show RowIs _ _ _ _; rw [← hV]; simpa using rowIs_new (w.alloc (.cells #[.int .i64 room, .slice ad L.length cap] 26)) 28 [.string f.n, .string f.v]
  clear hV
  refine (specTOk L room _ _ (HR.out.new HBW.out) hf).mono ?_
  rintro x w1 ⟨rfl, hb1⟩
  have x0 := (HX.out.new hb1).cell (j := 0) rfl
  have x1 := (HX.out.new hb1).cell (j := 1) rfl
  have y0 := (HY.out.new hb1).cell (j := 0) rfl
  have y1 := (HY.out.new hb1).cell (j := 1) rfl
  replace HBW := hide (bchain HBW.out hb1)
  clear hb1 HX HY
  cases hR : okT room L
  · have HDD : Hid (D = (0, false)) := by show _ = _; rw [HD.out]; simp [lookD, hR]
    go_wp2_with fail
    refine bodyPost_ret (v := (.tuple #[.int .i64 0, .bool false])) (by simp [results, Try.results26, go_sem, *]) rfl ?_
    rw [HDD.out]
    exact ⟨rfl, HBW.out⟩
  have HDD : Hid (D = lookL L f) := by show _ = _; rw [HD.out]; simp [lookD, hR]
  have hlen := (okT_parts hR).2.2.2.2
  go_wp2_with fail
  refine (specLookL L room _ f _ (HR.out.new HBW.out) hlen).mono ?_; rw [← HDD.out]
  rintro x w2 ⟨rfl, hb2⟩
  go_wp2_with fail
  refine bodyPost_ret (v := (.tuple #[.int .i64 D.1, .bool D.2])) (by simp [results, Try.results26, go_sem, *]) rfl ?_
  exact ⟨rfl, bchain HBW.out hb2⟩
set_option maxHeartbeats 1000000 in
theorem implLookup (L : List Fd) (room : Int) (v : Value) (f : Fd) (w : World) (hr0 : Reads w v L.length 2 (fv L)) (hf : ∀ f ∈ L, f.fine) (hff : f.fine) --@OKF@
    : Calls Try.prog 17 #[.agg #[.int .i64 room, v], .agg #[.string f.n, .string f.v]] w fun x w' => x = .returned (.tuple #[.int .i64 (lookD room L f).1, .bool (lookD room L f).2]) ∧ Below w.heap.size w w' := by
  obtain ⟨D, hD⟩ : ∃ D, D = lookD room L f := ⟨_, rfl⟩
  rw [← hD]
  have HD := hide hD
  have HR := hide hr0
  obtain ⟨hl, ad, cap, rfl, h1, h2, h3⟩ := hr0
  have H3 := hide h3
  unfold maxLen at h2
  clear h3 hD
  go_enter Try.func17, Try.ntmps17
  go_wp2_with fail
  generalize hV : (w.alloc (.cells #[.int .i64 room, .slice ad L.length cap] 26)).alloc (.cells #[.string f.n, .string f.v] 28) = V
  have HBW : Hid (Below w.heap.size w V) := by show Below _ _ _; rw [← hV]; exact bo_alloc ((Below.refl _ _).alloc (Nat.le_refl _) _) _
  have HX : Hid (RowIs V w.heap.size 26 [.int .i64 room, .slice ad L.length cap]) := by show RowIs _ _ _ _; rw [← hV]; exact (rowIs_new w 26 [.int .i64 room, .slice ad L.length cap]).alloc _
  have HY : Hid (RowIs V (w.heap.size + 1) 28 [.string f.n, .string f.v]) := by show RowIs _ _ _ _; rw [← hV]; simpa using rowIs_new (w.alloc (.cells #[.int .i64 room, .slice ad L.length cap] 26)) 28 [.string f.n, .string f.v]
  clear hV
  refine (implTOk L room _ _ (HR.out.new HBW.out) hf).mono ?_
  rintro x w1 ⟨rfl, hb1⟩
  replace HX := hide (HX.out.new hb1)
  replace HY := hide (HY.out.new hb1)
  replace HBW := hide (bchain HBW.out hb1)
  have x1 := HX.out.cell (j := 1) rfl
  have y0 := HY.out.cell (j := 0) rfl
  have y1 := HY.out.cell (j := 1) rfl
  clear hb1
  cases hR : okT room L
  · have HDD : Hid (D = (0, false)) := by show _ = _; rw [HD.out]; simp [lookD, hR]
    go_wp2_with fail
    refine bodyPost_ret (v := (.tuple #[.int .i64 0, .bool false])) (by simp [results, Try.results17, go_sem, *]) rfl ?_
    rw [HDD.out]
    exact ⟨rfl, HBW.out⟩
  have HDD : Hid (D = lookL L f) := by show _ = _; rw [HD.out]; simp [lookD, hR]
  have hlen := (okT_parts hR).2.2.2.2
  go_wp2_with fail
  --@RIGHT@
  clear x1 y0 y1
  obtain ⟨V1, rfl⟩ : ∃ x : World, x = w1 := ⟨_, rfl⟩
  have HX1 := HX; have HY1 := HY; have HBW1 := HBW
  clear HX HY HBW
  go_loopw [6, 15] (fun nm i wr => ∃ (k : Nat), i = .int .i64 k ∧ nm = .int .i64 (numOf (named f) (L.take k) : Nat) ∧ k ≤ L.length ∧ numOf (alike f) (L.take k) = 0 ∧ Below V1.heap.size V1 wr) (fun _ i _ => L.length - (intOf i).toNat)
  case atStart => exact ⟨0, rfl, rfl, Nat.zero_le _, rfl, Below.refl _ _⟩
  case round =>
    obtain ⟨k, rfl, rfl, hk, hno, hbr⟩ := hrel
    have hry := HY1.out.new hbr
    have y0 := hry.cell (j := 0) rfl
    have y1 := hry.cell (j := 1) rfl
    have hyl := hry.lt
    clear hry
    by_cases hlt : k < L.length
    · obtain ⟨b, o, rfl, hbw, hc⟩ := H3.out (by omega)
      obtain ⟨s0, s1⟩ := fv_get L k hlt
      have hbx := bchain HBW1.out hbr
      have c0 : wr.cell? ⟨b, o + k * 2, none⟩ = some (.string L[k].n) := by rw [hbx.cell (p := ⟨b, o + k * 2, none⟩) hbw]; exact hc _ _ s0
      have c1 : wr.cell? ⟨b, o + k * 2 + 1, none⟩ = some (.string L[k].v) := by rw [hbx.cell (p := ⟨b, o + k * 2 + 1, none⟩) hbw]; exact hc _ _ s1
      have HBX := hide hbx
      have HBR := hide hbr
      clear hc s0 s1 hbx hbr
      have HCUT := hide (numOf_cut (alike f) L k hlt hno)
      have HNOX := hide (numOf_no (alike f) L k hlt hno)
      have HNM := hide (numOf_one (named f) L k hlt)
      have hnr : numOf (named f) (L.take k) ≤ k := by have := numOf_le (named f) (L.take k); rw [List.length_take] at this; omega
      generalize L[k] = r at *
      generalize numOf (named f) (L.take k) = nm at *
      have hkI : (k : Int) < L.length := by omega
      have hne : ¬ wr.heap.size = w.heap.size + 1 := by omega
      have hne' : ¬ w.heap.size + 1 = wr.heap.size := by omega
      go_upto_region 7 with fail
      have hbA : Below wr.heap.size wr (wr.alloc (.cells #[.string r.n, .string r.v] 28)) := (Below.refl _ _).alloc (Nat.le_refl _) _
      have hz := rowIs_new wr 28 [.string r.n, .string r.v]
      have z0 := hz.cell (j := 0) rfl
      have z1 := hz.cell (j := 1) rfl
      have y0' := (hbA.cell (p := ⟨w.heap.size + 1, 0, none⟩) hyl).trans y0
      have y1' := (hbA.cell (p := ⟨w.heap.size + 1, 1, none⟩) hyl).trans y1
      have HBR' := hide (bchain HBR.out hbA)
      have HBX' := hide (bchain HBX.out hbA)
      clear y0 y1 c0 c1 hz hbA
      change World.cell? (wr.alloc (.cells #[.string r.n, .string r.v] 28)) _ = _ at z0 z1
      generalize wr.alloc (.cells #[.string r.n, .string r.v] 28) = VR at *
      cases hp : alike f r
      · have HN1 := hide (HNOX.out hp)
        have hpf : (r.n.toList == f.n.toList) = false ∨ ((r.n.toList == f.n.toList) = true ∧ (r.v.toList == f.v.toList) = false) := by unfold alike at hp; revert hp; cases (r.n.toList == f.n.toList) <;> simp
        clear HCUT HNOX hno hp
        by_cases hz0 : nm = 0
        · subst hz0
          rcases hpf with hn | ⟨hn, hv⟩
          · have HNX : Hid (numOf (named f) (L.take (k + 1)) = 0) := by show _ = _; rw [HNM.out]; simp [named, hn]
            go_wp2_with fail
            go_roundw
            case rel => exact ⟨k + 1, by go_num, by rw [HNX.out], by omega, HN1.out, HBR'.out⟩
            case measure => simp [intOf]; omega
          · have HNX : Hid (numOf (named f) (L.take (k + 1)) = k + 1) := by show _ = _; rw [HNM.out]; simp [named, hn]
            go_wp2_with fail
            go_roundw
            case rel => exact ⟨k + 1, by go_num, by rw [HNX.out]; simp, by omega, HN1.out, HBR'.out⟩
            case measure => simp [intOf]; omega
        · have HNX : Hid (numOf (named f) (L.take (k + 1)) = nm) := by show _ = _; rw [HNM.out, if_neg hz0]
          have hzI : ¬ (nm : Int) = 0 := by omega
          rcases hpf with hn | ⟨hn, hv⟩
          · go_wp2_with fail
            go_roundw
            case rel => exact ⟨k + 1, by go_num, by rw [HNX.out], by omega, HN1.out, HBR'.out⟩
            case measure => simp [intOf]; omega
          · go_wp2_with fail
            go_roundw
            case rel => exact ⟨k + 1, by go_num, by rw [HNX.out], by omega, HN1.out, HBR'.out⟩
            case measure => simp [intOf]; omega
      · have hn : (r.n.toList == f.n.toList) = true ∧ (r.v.toList == f.v.toList) = true := by unfold alike at hp; simpa using hp
        obtain ⟨hn, hv⟩ := hn
        have HD3 : Hid (D = ((k : Int) + 1, true)) := by show _ = _; rw [HDD.out]; have h9 := HCUT.out hp; simp [lookL, h9]
        clear HCUT HNOX hno hp
        go_wp2_with fail
        refine bodyPost_ret (v := (.tuple #[.int .i64 ((k : Int) + 1), .bool true])) (by simp [results, Try.results17, go_sem, *]) rfl ?_
        rw [HD3.out]
        exact ⟨rfl, HBX'.out⟩
    · obtain rfl : k = L.length := by omega
      rw [List.take_length] at hno
      rw [List.take_length]
      have HD3 : Hid (D = (((numOf (named f) L : Nat) : Int), false)) := by show _ = _; rw [HDD.out]; simp [lookL, hno]
      have HBX := hide (bchain HBW1.out hbr)
      clear hno
      go_wp2_with fail
      refine bodyPost_ret (v := (.tuple #[.int .i64 (numOf (named f) L : Nat), .bool false])) (by simp [results, Try.results17, go_sem, *]) rfl ?_
      rw [HD3.out]
      exact ⟨rfl, HBX.out⟩
end Go.Proofs.Ythjbmmppckgcjaa
