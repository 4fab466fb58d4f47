/- Several small texts of one level, one behind the other. -/
import Derived.Test.YtfmeinkhdgbgjaaGreatQTkG13
import Derived.Test.YtfmeinkhdgbgjaaGreatQTkG7
import Derived.Laws.StructEq
import Derived.Deep.Cut
/- Lookup of the program and of the model, in plain words. -/
namespace Go.Proofs.YtfmeinkhdgbgjaaGreat
open Go.RowKit
set_option maxRecDepth 100000
set_option linter.unusedSimpArgs false
set_option linter.unusedVariables false
/-- Is a row alike? Has it this Name? -/
def alike (f r : Fd) : Bool := (r.n.toList == f.n.toList) && (r.v.toList == f.v.toList)
end Go.Proofs.YtfmeinkhdgbgjaaGreat
/- The program's Noted and Resized. -/
namespace Go.Proofs.YtfmeinkhdgbgjaaGreat
open Go.RowKit
set_option maxRecDepth 100000
set_option linter.unusedSimpArgs false
set_option linter.unusedVariables false

set_option maxRecDepth 100000 in
set_option maxHeartbeats 4000000 in
theorem implResized (L : List Fd) (room : Int) (v : Value) (r : Int) (w : World) (hr0 : Reads w v L.length 2 (fv L)) (hf : ∀ f ∈ L, f.fine) :
    Calls Tryz.prog 244 #[.agg #[.int .i64 room, v], .int .i64 r] w fun x w' => ∃ v', x = .returned (.tuple #[.agg #[.int .i64 (resizedD room L r).1.1, v'], .bool (resizedD room L r).2]) ∧ w'.ownsRow w.heap.size 163 2 v' (resizedD room L r).1.2.length (fv (resizedD room L r).1.2) ∧ Below w.heap.size w w' := by
  obtain ⟨D, hD⟩ : ∃ D, D = resizedD room L r := ⟨_, rfl⟩
  rw [← hD]
  have HD := hide hD
  have HR := hide hr0
  obtain ⟨hl, ad, cap, rfl, h1, h2, h3⟩ := hr0
  clear h3 hD
  go_enter Tryz.func244, Tryz.ntmps244
  go_wp2_with fail
  generalize hV : (w.alloc (.cells #[.int .i64 room, .slice ad L.length cap] 29)).alloc (.cells #[.int .i64 0, .slice none 0 0] 29) = V
  have HBW : Hid (Below w.heap.size w V) := by show Below _ _ _; rw [← hV]; exact bo_alloc ((Below.refl _ _).alloc (Nat.le_refl _) _) _
  have HX : Hid (RowIs V w.heap.size 29 [.int .i64 room, .slice ad L.length cap]) := by show RowIs _ _ _ _; rw [← hV]; exact (rowIs_new w 29 [.int .i64 room, .slice ad L.length cap]).alloc _
  have HRR : Hid (RowIs V (w.heap.size + 1) 29 [.int .i64 0, .slice none 0 0]) := by show RowIs _ _ _ _; rw [← hV]; simpa using rowIs_new (w.alloc (.cells #[.int .i64 room, .slice ad L.length cap] 29)) 29 [.int .i64 0, .slice none 0 0]
  have hlV := HRR.out.lt
  clear hV
  refine (ringOf1 L room _ _ (HR.out.new HBW.out) hf).mono ?_
  rintro x w1 ⟨cs, hcl, hone, rfl, hcs, hb1⟩
  have HONE := hide hone
  have HCS := hide hcs
  have hb6 := hb1.size
  replace HX := hide (HX.out.new hb1)
  replace HRR := hide (HRR.out.new hb1)
  replace HBW := hide (bchain HBW.out hb1)
  clear hone hcs hb1
  have hb12 : Below w1.heap.size w1 ((w1.alloc (.cells ringZ.toArray 229)).setRow w1.heap.size cs.toArray) := below_setRow ((Below.refl _ _).alloc (Nat.le_refl _) _) (Nat.le_refl _) _
  have hr6 : RowIs ((w1.alloc (.cells ringZ.toArray 229)).setRow w1.heap.size cs.toArray) w1.heap.size 229 cs := rowIs_setRow (rowIs_new w1 229 ringZ)
  have HR6 := hide hr6
  have HB12 := hide hb12
  clear hr6 hb12
  cases hR : okT room L
  · have HDD : Hid (D = ((0, []), false)) := by show _ = _; rw [HD.out]; simp [resizedD, hR]
    go_upto_region 2 with (first | (refine wpList_alloc_row (by rfl) 229 (by rfl) ringZ ringZ_zero.1 ?_) | (refine wpList_store_row (by rfl) 229 _ _ (by rfl) (w1.heap.size) (cs) (by rfl) (by rfl) 229 (ringZ) (rowIs_new w1 229 ringZ) (by rw [hcl]; exact ringZ_zero.2) (Eq.trans ringZ_len (Eq.symm hcl)) (HONE.out) ?_))
    generalize (w1.alloc (.cells ringZ.toArray 229)).setRow w1.heap.size cs.toArray = w2 at *
    have hb12 := HB12.out
    replace HX := hide (HX.out.new hb12)
    replace HRR := hide (HRR.out.new hb12)
    replace HBW := hide (bchain HBW.out hb12)
    have r0 := HRR.out.cell (j := 0) rfl
    have r1 := HRR.out.cell (j := 1) rfl
    have r2 := HRR.out.frozen 0
    have r3 := HRR.out.frozen 1
    go_wp2_with fail
    refine bodyPost_ret (v := (.tuple #[.agg #[.int .i64 0, .slice none 0 0], .bool false])) (by simp [results, Tryz.results244, go_sem, *]) rfl ?_
    rw [HDD.out]
    exact ⟨_, rfl, own_nil _ _ _, (HBW.out.setCell (show w.heap.size ≤ w.heap.size + 1 by omega) _).setCell (show w.heap.size ≤ w.heap.size + 1 by omega) _⟩
  obtain ⟨hrm0, hrm1, hall, hsum, hlen⟩ := okT_parts hR
  have HALL := hide hall
  have hcs := HCS.out hR
  subst hcs
  clear hall
  go_upto_region 2 with (first | (refine wpList_alloc_row (by rfl) 229 (by rfl) ringZ ringZ_zero.1 ?_) | (refine wpList_store_row (by rfl) 229 _ _ (by rfl) (w1.heap.size) ((rC (ringS 0 L) 0 L.length (sumW L))) (by rfl) (by rfl) 229 (ringZ) (rowIs_new w1 229 ringZ) (by rw [hcl]; exact ringZ_zero.2) (Eq.trans ringZ_len (Eq.symm hcl)) (HONE.out) ?_))
  generalize (w1.alloc (.cells ringZ.toArray 229)).setRow w1.heap.size (rC (ringS 0 L) 0 L.length (sumW L)).toArray = w2 at *
  have hb12 := HB12.out
  have HRA : Hid (RingAt w2 w1.heap.size 0 L) := ⟨by omega, by omega, HR6.out⟩
  replace HX := hide (HX.out.new hb12)
  replace HRR := hide (HRR.out.new hb12)
  replace HBW := hide (bchain HBW.out hb12)
  clear hb12 HB12 HR6 HONE HCS hcl
  have x0 := HX.out.cell (j := 0) rfl
  have x1 := HX.out.cell (j := 1) rfl
  have r0 := HRR.out.cell (j := 0) rfl
  have r1 := HRR.out.cell (j := 1) rfl
  have r2 := HRR.out.frozen 0
  have r3 := HRR.out.frozen 1
  cases hok : inB r 0 1000
  · have HDD : Hid (D = ((room, L), false)) := by show _ = _; rw [HD.out]; simp [resizedD, hR, hok]
    go_wp2_with fail
    refine (implRoom r _).mono ?_; rw [hok]; rintro x w3 ⟨rfl, rfl⟩
    go_wp2_with fail
    clear x0 x1 r0 r1 r2 r3
    refine (table1 w1.heap.size 0 L room _ HRA.out HALL.out).mono ?_
    rintro x w9 ⟨v9, rfl, ho9, hb9⟩
    obtain ⟨a9, p9, rfl, _⟩ := owns_form ho9
    have hov : ∀ q, (Value.slice a9 (L).length p9).ownBlock = some q → w.heap.size + 1 + 1 ≤ q := fun q hq => by have h1 := (ho9.lt q hq).1; have h2 := HRR.out.lt; omega
    have HO := hide ho9
    clear ho9
    replace HX := hide (HX.out.new hb9)
    replace HRR := hide (HRR.out.new hb9)
    replace HBW := hide (bchain HBW.out hb9)
    clear hb9
    have r0 := HRR.out.cell (j := 0) rfl
    have r1 := HRR.out.cell (j := 1) rfl
    have r2 := HRR.out.frozen 0
    have r3 := HRR.out.frozen 1
    generalize hgl : (L).length = gl at *
    go_wp2_with fail
    refine bodyPost_ret (v := (.tuple #[.agg #[.int .i64 (room), .slice a9 gl p9], .bool false])) (by simp [results, Tryz.results244, go_sem, *]) rfl ?_
    rw [HDD.out]
    subst hgl
    exact ⟨_, rfl, (owns_base (owns_far (w.heap.size + 1 + 1) (owns_far (w.heap.size + 1 + 1) HO.out hov _ _ (show w.heap.size + 1 < w.heap.size + 1 + 1 by omega)) hov _ _ (show w.heap.size + 1 < w.heap.size + 1 + 1 by omega)) (fun q hq => by have := hov q hq; omega)), (HBW.out.setCell (show w.heap.size ≤ w.heap.size + 1 by omega) _).setCell (show w.heap.size ≤ w.heap.size + 1 by omega) _⟩
  · have HDD : Hid (D = ((r, shr r L), true)) := by show _ = _; rw [HD.out]; simp [resizedD, hR, hok]
    go_wp2_with fail
    refine (implRoom r _).mono ?_; rw [hok]; rintro x w3 ⟨rfl, rfl⟩
    go_wp2_with fail
    refine (fit1 w1.heap.size _ L r _ HRA.out HALL.out (inB_true hok).1).mono ?_; rintro x w5 ⟨rfl, hra5, ht5⟩
    replace HX := hide (HX.out.kept (ht5.block _ HX.out.lt (by omega)))
    replace HRR := hide (HRR.out.kept (ht5.block _ HRR.out.lt (by omega)))
    replace HBW := hide (HBW.out.trans (ht5.below (by omega) HBW.out.size))
    clear x0 x1 r0 r1 r2 r3
    have HRA5 := hide hra5
    clear hra5 ht5
    have x0 := HX.out.cell (j := 0) rfl
    have x1 := HX.out.cell (j := 1) rfl
    have r0 := HRR.out.cell (j := 0) rfl
    have r1 := HRR.out.cell (j := 1) rfl
    have r2 := HRR.out.frozen 0
    have r3 := HRR.out.frozen 1
    go_wp2_with fail
    clear x0 x1 r0 r1 r2 r3
    refine (table1 w1.heap.size _ (shr r L) r _ HRA5.out (shr_all HALL.out)).mono ?_
    rintro x w9 ⟨v9, rfl, ho9, hb9⟩
    obtain ⟨a9, p9, rfl, _⟩ := owns_form ho9
    have hov : ∀ q, (Value.slice a9 ((shr r L)).length p9).ownBlock = some q → w.heap.size + 1 + 1 ≤ q := fun q hq => by have h1 := (ho9.lt q hq).1; have h2 := HRR.out.lt; omega
    have HO := hide ho9
    clear ho9
    replace HX := hide (HX.out.new hb9)
    replace HRR := hide (HRR.out.new hb9)
    replace HBW := hide (bchain HBW.out hb9)
    clear hb9
    have r0 := HRR.out.cell (j := 0) rfl
    have r1 := HRR.out.cell (j := 1) rfl
    have r2 := HRR.out.frozen 0
    have r3 := HRR.out.frozen 1
    generalize hgl : ((shr r L)).length = gl at *
    go_wp2_with fail
    refine bodyPost_ret (v := (.tuple #[.agg #[.int .i64 (r), .slice a9 gl p9], .bool true])) (by simp [results, Tryz.results244, go_sem, *]) rfl ?_
    rw [HDD.out]
    subst hgl
    exact ⟨_, rfl, (owns_base (owns_far (w.heap.size + 1 + 1) (owns_far (w.heap.size + 1 + 1) HO.out hov _ _ (show w.heap.size + 1 < w.heap.size + 1 + 1 by omega)) hov _ _ (show w.heap.size + 1 < w.heap.size + 1 + 1 by omega)) (fun q hq => by have := hov q hq; omega)), (HBW.out.setCell (show w.heap.size ≤ w.heap.size + 1 by omega) _).setCell (show w.heap.size ≤ w.heap.size + 1 by omega) _⟩

end Go.Proofs.YtfmeinkhdgbgjaaGreat
