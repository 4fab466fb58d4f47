/- The program's Noted and Resized. -/
import Derived.Test.YthjbmmppckgcjaaImplTOk
import Derived.Test.YthjbmmppckgcjaaNotedD
import Derived.Deep.Cut

namespace Go.Proofs.Ythjbmmppckgcjaa
open Go.RowKit
set_option linter.unusedSimpArgs false
set_option linter.unusedVariables false

theorem put2 (b first : Nat) (L : List Fd) (f : Fd) (w : World) (h : RingAt w b first L) (hl : L.length ≤ 111) (hf : f.fine) :
    Calls Try.prog 42 #[.pointer (some ⟨b, 0, none⟩), .agg #[.string f.n, .string f.v]] w fun x w' => x = .returned (.tuple #[]) ∧ RingAt w' b ((first + 111) % 112) (f :: L) ∧ Turn b (b + 1) w w' := by
  have hrg := sumW_range L
  refine (putFirst1 b first L.length (ringS first L) (sumW L) f w (ringS_len _ _) h.row h.fst (by omega) hf hrg.1 (by omega)).mono ?_
  rintro x w' ⟨rfl, hr', ht⟩
  refine ⟨rfl, ⟨Nat.mod_lt _ (by omega), by simp only [List.length_cons]; omega, ?_⟩, ht⟩
  rw [← ringS_first f h.fst (by omega)]
  simp only [List.length_cons, sumW]
  rw [Int.add_comm (wt f)]
  exact hr'

set_option maxRecDepth 100000 in
set_option maxHeartbeats 4000000 in
theorem implNoted (L : List Fd) (room : Int) (v : Value) (f : Fd) (w : World) (hr0 : Reads w v L.length 2 (fv L)) (hf : ∀ f ∈ L, f.fine) (hff : f.fine) :
    Calls Try.prog 11 #[.agg #[.int .i64 room, v], .agg #[.string f.n, .string f.v]] w fun x w' => ∃ v', x = .returned (.tuple #[.agg #[.int .i64 (notedD room L f).1.1, v'], .bool (notedD room L f).2]) ∧ w'.ownsRow w.heap.size 28 2 v' (notedD room L f).1.2.length (fv (notedD room L f).1.2) ∧ Below w.heap.size w w' := by
  obtain ⟨D, hD⟩ : ∃ D, D = notedD room L f := ⟨_, rfl⟩
  rw [← hD]
  have HD := hide hD
  have HR := hide hr0
  obtain ⟨hl, ad, cap, rfl, h1, h2, h3⟩ := hr0
  clear h3 hD
  go_enter Try.func11, Try.ntmps11
  go_wp2_with fail
  generalize hV : ((w.alloc (.cells #[.int .i64 room, .slice ad L.length cap] 26)).alloc (.cells #[.string f.n, .string f.v] 28)).alloc (.cells #[.int .i64 0, .slice none 0 0] 26) = V
  have HBW : Hid (Below w.heap.size w V) := by show Below _ _ _; rw [← hV]; exact bo_alloc (bo_alloc ((Below.refl _ _).alloc (Nat.le_refl _) _) _) _
  have HX : Hid (RowIs V w.heap.size 26 [.int .i64 room, .slice ad L.length cap]) := by show RowIs _ _ _ _; rw [← hV]; exact ((rowIs_new w 26 [.int .i64 room, .slice ad L.length cap]).alloc _).alloc _
  have HY : Hid (RowIs V (w.heap.size + 1) 28 [.string f.n, .string f.v]) := by show RowIs _ _ _ _; rw [← hV]; exact (by simpa using rowIs_new (w.alloc (.cells #[.int .i64 room, .slice ad L.length cap] 26)) 28 [.string f.n, .string f.v] : RowIs _ (w.heap.size + 1) _ _).alloc _
  have HRR : Hid (RowIs V (w.heap.size + 1 + 1) 26 [.int .i64 0, .slice none 0 0]) := by show RowIs _ _ _ _; rw [← hV]; simpa using rowIs_new ((w.alloc (.cells #[.int .i64 room, .slice ad L.length cap] 26)).alloc (.cells #[.string f.n, .string f.v] 28)) 26 [.int .i64 0, .slice none 0 0]
  have hlV := HRR.out.lt
  clear hV
  refine (ringOf1 L room _ _ (HR.out.new HBW.out) hf).mono ?_
  rintro x w1 ⟨cs, hcl, hone, rfl, hcs, hb1⟩
  have HONE := hide hone
  have HCS := hide hcs
  have hb6 := hb1.size
  replace HX := hide (HX.out.new hb1)
  replace HY := hide (HY.out.new hb1)
  replace HRR := hide (HRR.out.new hb1)
  replace HBW := hide (bchain HBW.out hb1)
  clear hone hcs hb1
  have hb12 : Below w1.heap.size w1 ((w1.alloc (.cells ringZ.toArray 63)).setRow w1.heap.size cs.toArray) := below_setRow ((Below.refl _ _).alloc (Nat.le_refl _) _) (Nat.le_refl _) _
  have hr6 : RowIs ((w1.alloc (.cells ringZ.toArray 63)).setRow w1.heap.size cs.toArray) w1.heap.size 63 cs := rowIs_setRow (rowIs_new w1 63 ringZ)
  have HR6 := hide hr6
  have HB12 := hide hb12
  clear hr6 hb12
  cases hR : okT room L
  · have HDD : Hid (D = ((0, []), false)) := by show _ = _; rw [HD.out]; simp [notedD, hR]
    go_upto_region 2 with (first | (refine wpList_alloc_row (by rfl) 63 (by rfl) ringZ ringZ_zero.1 ?_) | (refine wpList_store_row (by rfl) 63 _ _ (by rfl) (w1.heap.size) (cs) (by rfl) (by rfl) 63 (ringZ) (rowIs_new w1 63 ringZ) (by rw [hcl]; exact ringZ_zero.2) (Eq.trans ringZ_len (Eq.symm hcl)) (HONE.out) ?_))
    generalize (w1.alloc (.cells ringZ.toArray 63)).setRow w1.heap.size cs.toArray = w2 at *
    have hb12 := HB12.out
    replace HX := hide (HX.out.new hb12)
    replace HY := hide (HY.out.new hb12)
    replace HRR := hide (HRR.out.new hb12)
    replace HBW := hide (bchain HBW.out hb12)
    have r0 := HRR.out.cell (j := 0) rfl
    have r1 := HRR.out.cell (j := 1) rfl
    have r2 := HRR.out.frozen 0
    have r3 := HRR.out.frozen 1
    go_wp2_with fail
    refine bodyPost_ret (v := (.tuple #[.agg #[.int .i64 0, .slice none 0 0], .bool false])) (by simp [results, Try.results11, go_sem, *]) rfl ?_
    rw [HDD.out]
    exact ⟨_, rfl, own_nil _ _ _, (HBW.out.setCell (show w.heap.size ≤ w.heap.size + 1 + 1 by omega) _).setCell (show w.heap.size ≤ w.heap.size + 1 + 1 by omega) _⟩
  obtain ⟨hrm0, hrm1, hall, hsum, hlen⟩ := okT_parts hR
  have HALL := hide hall
  have hcs := HCS.out hR
  subst hcs
  clear hall
  go_upto_region 2 with (first | (refine wpList_alloc_row (by rfl) 63 (by rfl) ringZ ringZ_zero.1 ?_) | (refine wpList_store_row (by rfl) 63 _ _ (by rfl) (w1.heap.size) ((rC (ringS 0 L) 0 L.length (sumW L))) (by rfl) (by rfl) 63 (ringZ) (rowIs_new w1 63 ringZ) (by rw [hcl]; exact ringZ_zero.2) (Eq.trans ringZ_len (Eq.symm hcl)) (HONE.out) ?_))
  generalize (w1.alloc (.cells ringZ.toArray 63)).setRow w1.heap.size (rC (ringS 0 L) 0 L.length (sumW L)).toArray = w2 at *
  have hb12 := HB12.out
  have HRA : Hid (RingAt w2 w1.heap.size 0 L) := ⟨by omega, by omega, HR6.out⟩
  replace HX := hide (HX.out.new hb12)
  replace HY := hide (HY.out.new hb12)
  replace HRR := hide (HRR.out.new hb12)
  replace HBW := hide (bchain HBW.out hb12)
  clear hb12 HB12 HR6 HONE HCS hcl
  have x0 := HX.out.cell (j := 0) rfl
  have x1 := HX.out.cell (j := 1) rfl
  have y0 := HY.out.cell (j := 0) rfl
  have y1 := HY.out.cell (j := 1) rfl
  have r0 := HRR.out.cell (j := 0) rfl
  have r1 := HRR.out.cell (j := 1) rfl
  have r2 := HRR.out.frozen 0
  have r3 := HRR.out.frozen 1
  cases hok : okF f
  · have HDD : Hid (D = ((room, L), false)) := by show _ = _; rw [HD.out]; simp [notedD, hR, hok]
    go_wp2_with fail
    refine (implRight f _ hff).mono ?_; rw [hok]; rintro x w3 ⟨rfl, hb3⟩
    replace HX := hide (HX.out.new hb3)
    replace HY := hide (HY.out.new hb3)
    replace HRR := hide (HRR.out.new hb3)
    replace HBW := hide (bchain HBW.out hb3)
    replace HRA := hide (HRA.out.new hb3)
    clear x0 x1 y0 y1 r0 r1 r2 r3
    clear hb3
    have x0 := HX.out.cell (j := 0) rfl
    have x1 := HX.out.cell (j := 1) rfl
    have y0 := HY.out.cell (j := 0) rfl
    have y1 := HY.out.cell (j := 1) rfl
    have r0 := HRR.out.cell (j := 0) rfl
    have r1 := HRR.out.cell (j := 1) rfl
    have r2 := HRR.out.frozen 0
    have r3 := HRR.out.frozen 1
    go_wp2_with fail
    clear x0 x1 y0 y1 r0 r1 r2 r3
    refine (table1 w1.heap.size 0 L room _ HRA.out HALL.out).mono ?_
    rintro x w9 ⟨v9, rfl, ho9, hb9⟩
    obtain ⟨a9, p9, rfl, _⟩ := owns_form ho9
    have hov : ∀ q, (Value.slice a9 (L).length p9).ownBlock = some q → w.heap.size + 1 + 1 + 1 ≤ q := fun q hq => by have h1 := (ho9.lt q hq).1; have h2 := HRR.out.lt; omega
    have HO := hide ho9
    clear ho9
    replace HX := hide (HX.out.new hb9)
    replace HY := hide (HY.out.new hb9)
    replace HRR := hide (HRR.out.new hb9)
    replace HBW := hide (bchain HBW.out hb9)
    clear hb9
    have r0 := HRR.out.cell (j := 0) rfl
    have r1 := HRR.out.cell (j := 1) rfl
    have r2 := HRR.out.frozen 0
    have r3 := HRR.out.frozen 1
    generalize hgl : (L).length = gl at *
    go_wp2_with fail
    refine bodyPost_ret (v := (.tuple #[.agg #[.int .i64 (room), .slice a9 gl p9], .bool false])) (by simp [results, Try.results11, go_sem, *]) rfl ?_
    rw [HDD.out]
    subst hgl
    exact ⟨_, rfl, (owns_base (owns_far (w.heap.size + 1 + 1 + 1) (owns_far (w.heap.size + 1 + 1 + 1) HO.out hov _ _ (show w.heap.size + 1 + 1 < w.heap.size + 1 + 1 + 1 by omega)) hov _ _ (show w.heap.size + 1 + 1 < w.heap.size + 1 + 1 + 1 by omega)) (fun q hq => by have := hov q hq; omega)), (HBW.out.setCell (show w.heap.size ≤ w.heap.size + 1 + 1 by omega) _).setCell (show w.heap.size ≤ w.heap.size + 1 + 1 by omega) _⟩
  · have HDD : Hid (D = ((room, shr room (f :: L)), true)) := by show _ = _; rw [HD.out]; simp [notedD, hR, hok]
    go_wp2_with fail
    refine (implRight f _ hff).mono ?_; rw [hok]; rintro x w3 ⟨rfl, hb3⟩
    replace HX := hide (HX.out.new hb3)
    replace HY := hide (HY.out.new hb3)
    replace HRR := hide (HRR.out.new hb3)
    replace HBW := hide (bchain HBW.out hb3)
    replace HRA := hide (HRA.out.new hb3)
    clear x0 x1 y0 y1 r0 r1 r2 r3
    clear hb3
    have x0 := HX.out.cell (j := 0) rfl
    have x1 := HX.out.cell (j := 1) rfl
    have y0 := HY.out.cell (j := 0) rfl
    have y1 := HY.out.cell (j := 1) rfl
    have r0 := HRR.out.cell (j := 0) rfl
    have r1 := HRR.out.cell (j := 1) rfl
    have r2 := HRR.out.frozen 0
    have r3 := HRR.out.frozen 1
    go_wp2_with fail
    refine (put2 w1.heap.size 0 L f _ HRA.out hlen hff).mono ?_; rintro x w4 ⟨rfl, hra4, ht4⟩
    replace HX := hide (HX.out.kept (ht4.block _ HX.out.lt (by omega)))
    replace HY := hide (HY.out.kept (ht4.block _ HY.out.lt (by omega)))
    replace HRR := hide (HRR.out.kept (ht4.block _ HRR.out.lt (by omega)))
    replace HBW := hide (HBW.out.trans (ht4.below (by omega) HBW.out.size))
    clear x0 x1 y0 y1 r0 r1 r2 r3
    have HRA4 := hide hra4
    clear hra4 ht4
    have HALL2 : Hid (∀ g ∈ f :: L, okF g = true) := fun g hg => by rcases List.mem_cons.1 hg with rfl | hg; exact hok; exact HALL.out g hg
    have x0 := HX.out.cell (j := 0) rfl
    have x1 := HX.out.cell (j := 1) rfl
    have y0 := HY.out.cell (j := 0) rfl
    have y1 := HY.out.cell (j := 1) rfl
    have r0 := HRR.out.cell (j := 0) rfl
    have r1 := HRR.out.cell (j := 1) rfl
    have r2 := HRR.out.frozen 0
    have r3 := HRR.out.frozen 1
    go_wp2_with fail
    refine (fit1 w1.heap.size _ (f :: L) room _ HRA4.out HALL2.out hrm0).mono ?_; rintro x w5 ⟨rfl, hra5, ht5⟩
    replace HX := hide (HX.out.kept (ht5.block _ HX.out.lt (by omega)))
    replace HY := hide (HY.out.kept (ht5.block _ HY.out.lt (by omega)))
    replace HRR := hide (HRR.out.kept (ht5.block _ HRR.out.lt (by omega)))
    replace HBW := hide (HBW.out.trans (ht5.below (by omega) HBW.out.size))
    clear x0 x1 y0 y1 r0 r1 r2 r3
    have HRA5 := hide hra5
    clear hra5 ht5
    have x0 := HX.out.cell (j := 0) rfl
    have x1 := HX.out.cell (j := 1) rfl
    have y0 := HY.out.cell (j := 0) rfl
    have y1 := HY.out.cell (j := 1) rfl
    have r0 := HRR.out.cell (j := 0) rfl
    have r1 := HRR.out.cell (j := 1) rfl
    have r2 := HRR.out.frozen 0
    have r3 := HRR.out.frozen 1
    go_wp2_with fail
    clear x0 x1 y0 y1 r0 r1 r2 r3
    refine (table1 w1.heap.size _ (shr room (f :: L)) room _ HRA5.out (shr_all HALL2.out)).mono ?_
    rintro x w9 ⟨v9, rfl, ho9, hb9⟩
    obtain ⟨a9, p9, rfl, _⟩ := owns_form ho9
    have hov : ∀ q, (Value.slice a9 ((shr room (f :: L))).length p9).ownBlock = some q → w.heap.size + 1 + 1 + 1 ≤ q := fun q hq => by have h1 := (ho9.lt q hq).1; have h2 := HRR.out.lt; omega
    have HO := hide ho9
    clear ho9
    replace HX := hide (HX.out.new hb9)
    replace HY := hide (HY.out.new hb9)
    replace HRR := hide (HRR.out.new hb9)
    replace HBW := hide (bchain HBW.out hb9)
    clear hb9
    have r0 := HRR.out.cell (j := 0) rfl
    have r1 := HRR.out.cell (j := 1) rfl
    have r2 := HRR.out.frozen 0
    have r3 := HRR.out.frozen 1
    generalize hgl : ((shr room (f :: L))).length = gl at *
    go_wp2_with fail
    refine bodyPost_ret (v := (.tuple #[.agg #[.int .i64 (room), .slice a9 gl p9], .bool true])) (by simp [results, Try.results11, go_sem, *]) rfl ?_
    rw [HDD.out]
    subst hgl
    exact ⟨_, rfl, (owns_base (owns_far (w.heap.size + 1 + 1 + 1) (owns_far (w.heap.size + 1 + 1 + 1) HO.out hov _ _ (show w.heap.size + 1 + 1 < w.heap.size + 1 + 1 + 1 by omega)) hov _ _ (show w.heap.size + 1 + 1 < w.heap.size + 1 + 1 + 1 by omega)) (fun q hq => by have := hov q hq; omega)), (HBW.out.setCell (show w.heap.size ≤ w.heap.size + 1 + 1 by omega) _).setCell (show w.heap.size ≤ w.heap.size + 1 + 1 by omega) _⟩

set_option maxRecDepth 100000 in
set_option maxHeartbeats 4000000 in
theorem implResized (L : List Fd) (room : Int) (v : Value) (r : Int) (w : World) (hr0 : Reads w v L.length 2 (fv L)) (hf : ∀ f ∈ L, f.fine) :
    Calls Try.prog 13 #[.agg #[.int .i64 room, v], .int .i64 r] w fun x w' => ∃ v', x = .returned (.tuple #[.agg #[.int .i64 (resizedD room L r).1.1, v'], .bool (resizedD room L r).2]) ∧ w'.ownsRow w.heap.size 28 2 v' (resizedD room L r).1.2.length (fv (resizedD room L r).1.2) ∧ Below w.heap.size w w' := by
  obtain ⟨D, hD⟩ : ∃ D, D = resizedD room L r := ⟨_, rfl⟩
  rw [← hD]
  have HD := hide hD
  have HR := hide hr0
  obtain ⟨hl, ad, cap, rfl, h1, h2, h3⟩ := hr0
  clear h3 hD
  go_enter Try.func13, Try.ntmps13
  go_wp2_with fail
  generalize hV : (w.alloc (.cells #[.int .i64 room, .slice ad L.length cap] 26)).alloc (.cells #[.int .i64 0, .slice none 0 0] 26) = V
  have HBW : Hid (Below w.heap.size w V) := by show Below _ _ _; rw [← hV]; exact bo_alloc ((Below.refl _ _).alloc (Nat.le_refl _) _) _
  have HX : Hid (RowIs V w.heap.size 26 [.int .i64 room, .slice ad L.length cap]) := by show RowIs _ _ _ _; rw [← hV]; exact (rowIs_new w 26 [.int .i64 room, .slice ad L.length cap]).alloc _
  have HRR : Hid (RowIs V (w.heap.size + 1) 26 [.int .i64 0, .slice none 0 0]) := by show RowIs _ _ _ _; rw [← hV]; simpa using rowIs_new (w.alloc (.cells #[.int .i64 room, .slice ad L.length cap] 26)) 26 [.int .i64 0, .slice none 0 0]
  have hlV := HRR.out.lt
  clear hV
  refine (ringOf1 L room _ _ (HR.out.new HBW.out) hf).mono ?_
  rintro x w1 ⟨cs, hcl, hone, rfl, hcs, hb1⟩
  have HONE := hide hone
  have HCS := hide hcs
  have hb6 := hb1.size
  replace HX := hide (HX.out.new hb1)
  replace HRR := hide (HRR.out.new hb1)
  replace HBW := hide (bchain HBW.out hb1)
  clear hone hcs hb1
  have hb12 : Below w1.heap.size w1 ((w1.alloc (.cells ringZ.toArray 63)).setRow w1.heap.size cs.toArray) := below_setRow ((Below.refl _ _).alloc (Nat.le_refl _) _) (Nat.le_refl _) _
  have hr6 : RowIs ((w1.alloc (.cells ringZ.toArray 63)).setRow w1.heap.size cs.toArray) w1.heap.size 63 cs := rowIs_setRow (rowIs_new w1 63 ringZ)
  have HR6 := hide hr6
  have HB12 := hide hb12
  clear hr6 hb12
  cases hR : okT room L
  · have HDD : Hid (D = ((0, []), false)) := by show _ = _; rw [HD.out]; simp [resizedD, hR]
    go_upto_region 2 with (first | (refine wpList_alloc_row (by rfl) 63 (by rfl) ringZ ringZ_zero.1 ?_) | (refine wpList_store_row (by rfl) 63 _ _ (by rfl) (w1.heap.size) (cs) (by rfl) (by rfl) 63 (ringZ) (rowIs_new w1 63 ringZ) (by rw [hcl]; exact ringZ_zero.2) (Eq.trans ringZ_len (Eq.symm hcl)) (HONE.out) ?_))
    generalize (w1.alloc (.cells ringZ.toArray 63)).setRow w1.heap.size cs.toArray = w2 at *
    have hb12 := HB12.out
    replace HX := hide (HX.out.new hb12)
    replace HRR := hide (HRR.out.new hb12)
    replace HBW := hide (bchain HBW.out hb12)
    have r0 := HRR.out.cell (j := 0) rfl
    have r1 := HRR.out.cell (j := 1) rfl
    have r2 := HRR.out.frozen 0
    have r3 := HRR.out.frozen 1
    go_wp2_with fail
    refine bodyPost_ret (v := (.tuple #[.agg #[.int .i64 0, .slice none 0 0], .bool false])) (by simp [results, Try.results13, go_sem, *]) rfl ?_
    rw [HDD.out]
    exact ⟨_, rfl, own_nil _ _ _, (HBW.out.setCell (show w.heap.size ≤ w.heap.size + 1 by omega) _).setCell (show w.heap.size ≤ w.heap.size + 1 by omega) _⟩
  obtain ⟨hrm0, hrm1, hall, hsum, hlen⟩ := okT_parts hR
  have HALL := hide hall
  have hcs := HCS.out hR
  subst hcs
  clear hall
  go_upto_region 2 with (first | (refine wpList_alloc_row (by rfl) 63 (by rfl) ringZ ringZ_zero.1 ?_) | (refine wpList_store_row (by rfl) 63 _ _ (by rfl) (w1.heap.size) ((rC (ringS 0 L) 0 L.length (sumW L))) (by rfl) (by rfl) 63 (ringZ) (rowIs_new w1 63 ringZ) (by rw [hcl]; exact ringZ_zero.2) (Eq.trans ringZ_len (Eq.symm hcl)) (HONE.out) ?_))
  generalize (w1.alloc (.cells ringZ.toArray 63)).setRow w1.heap.size (rC (ringS 0 L) 0 L.length (sumW L)).toArray = w2 at *
  have hb12 := HB12.out
  have HRA : Hid (RingAt w2 w1.heap.size 0 L) := ⟨by omega, by omega, HR6.out⟩
  replace HX := hide (HX.out.new hb12)
  replace HRR := hide (HRR.out.new hb12)
  replace HBW := hide (bchain HBW.out hb12)
  clear hb12 HB12 HR6 HONE HCS hcl
  have x0 := HX.out.cell (j := 0) rfl
  have x1 := HX.out.cell (j := 1) rfl
  have r0 := HRR.out.cell (j := 0) rfl
  have r1 := HRR.out.cell (j := 1) rfl
  have r2 := HRR.out.frozen 0
  have r3 := HRR.out.frozen 1
  cases hok : inB r 0 1000
  · have HDD : Hid (D = ((room, L), false)) := by show _ = _; rw [HD.out]; simp [resizedD, hR, hok]
    go_wp2_with fail
    refine (implRoom r _).mono ?_; rw [hok]; rintro x w3 ⟨rfl, rfl⟩
    go_wp2_with fail
    clear x0 x1 r0 r1 r2 r3
    refine (table1 w1.heap.size 0 L room _ HRA.out HALL.out).mono ?_
    rintro x w9 ⟨v9, rfl, ho9, hb9⟩
    obtain ⟨a9, p9, rfl, _⟩ := owns_form ho9
    have hov : ∀ q, (Value.slice a9 (L).length p9).ownBlock = some q → w.heap.size + 1 + 1 ≤ q := fun q hq => by have h1 := (ho9.lt q hq).1; have h2 := HRR.out.lt; omega
    have HO := hide ho9
    clear ho9
    replace HX := hide (HX.out.new hb9)
    replace HRR := hide (HRR.out.new hb9)
    replace HBW := hide (bchain HBW.out hb9)
    clear hb9
    have r0 := HRR.out.cell (j := 0) rfl
    have r1 := HRR.out.cell (j := 1) rfl
    have r2 := HRR.out.frozen 0
    have r3 := HRR.out.frozen 1
    generalize hgl : (L).length = gl at *
    go_wp2_with fail
    refine bodyPost_ret (v := (.tuple #[.agg #[.int .i64 (room), .slice a9 gl p9], .bool false])) (by simp [results, Try.results13, go_sem, *]) rfl ?_
    rw [HDD.out]
    subst hgl
    exact ⟨_, rfl, (owns_base (owns_far (w.heap.size + 1 + 1) (owns_far (w.heap.size + 1 + 1) HO.out hov _ _ (show w.heap.size + 1 < w.heap.size + 1 + 1 by omega)) hov _ _ (show w.heap.size + 1 < w.heap.size + 1 + 1 by omega)) (fun q hq => by have := hov q hq; omega)), (HBW.out.setCell (show w.heap.size ≤ w.heap.size + 1 by omega) _).setCell (show w.heap.size ≤ w.heap.size + 1 by omega) _⟩
  · have HDD : Hid (D = ((r, shr r L), true)) := by show _ = _; rw [HD.out]; simp [resizedD, hR, hok]
    go_wp2_with fail
    refine (implRoom r _).mono ?_; rw [hok]; rintro x w3 ⟨rfl, rfl⟩
    go_wp2_with fail
    refine (fit1 w1.heap.size _ L r _ HRA.out HALL.out (inB_true hok).1).mono ?_; rintro x w5 ⟨rfl, hra5, ht5⟩
    replace HX := hide (HX.out.kept (ht5.block _ HX.out.lt (by omega)))
    replace HRR := hide (HRR.out.kept (ht5.block _ HRR.out.lt (by omega)))
    replace HBW := hide (HBW.out.trans (ht5.below (by omega) HBW.out.size))
    clear x0 x1 r0 r1 r2 r3
    have HRA5 := hide hra5
    clear hra5 ht5
    have x0 := HX.out.cell (j := 0) rfl
    have x1 := HX.out.cell (j := 1) rfl
    have r0 := HRR.out.cell (j := 0) rfl
    have r1 := HRR.out.cell (j := 1) rfl
    have r2 := HRR.out.frozen 0
    have r3 := HRR.out.frozen 1
    go_wp2_with fail
    clear x0 x1 r0 r1 r2 r3
    refine (table1 w1.heap.size _ (shr r L) r _ HRA5.out (shr_all HALL.out)).mono ?_
    rintro x w9 ⟨v9, rfl, ho9, hb9⟩
    obtain ⟨a9, p9, rfl, _⟩ := owns_form ho9
    have hov : ∀ q, (Value.slice a9 ((shr r L)).length p9).ownBlock = some q → w.heap.size + 1 + 1 ≤ q := fun q hq => by have h1 := (ho9.lt q hq).1; have h2 := HRR.out.lt; omega
    have HO := hide ho9
    clear ho9
    replace HX := hide (HX.out.new hb9)
    replace HRR := hide (HRR.out.new hb9)
    replace HBW := hide (bchain HBW.out hb9)
    clear hb9
    have r0 := HRR.out.cell (j := 0) rfl
    have r1 := HRR.out.cell (j := 1) rfl
    have r2 := HRR.out.frozen 0
    have r3 := HRR.out.frozen 1
    generalize hgl : ((shr r L)).length = gl at *
    go_wp2_with fail
    refine bodyPost_ret (v := (.tuple #[.agg #[.int .i64 (r), .slice a9 gl p9], .bool true])) (by simp [results, Try.results13, go_sem, *]) rfl ?_
    rw [HDD.out]
    subst hgl
    exact ⟨_, rfl, (owns_base (owns_far (w.heap.size + 1 + 1) (owns_far (w.heap.size + 1 + 1) HO.out hov _ _ (show w.heap.size + 1 < w.heap.size + 1 + 1 by omega)) hov _ _ (show w.heap.size + 1 < w.heap.size + 1 + 1 by omega)) (fun q hq => by have := hov q hq; omega)), (HBW.out.setCell (show w.heap.size ≤ w.heap.size + 1 by omega) _).setCell (show w.heap.size ≤ w.heap.size + 1 by omega) _⟩

end Go.Proofs.Ythjbmmppckgcjaa
