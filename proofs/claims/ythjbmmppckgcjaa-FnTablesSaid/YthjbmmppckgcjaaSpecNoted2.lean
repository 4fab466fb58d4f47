/- The model's Noted and Resized. -/
import Derived.Test.YthjbmmppckgcjaaSpecNoted1
import Derived.Deep.Cut

namespace Go.Proofs.Ythjbmmppckgcjaa
open Go.RowKit
set_option linter.unusedSimpArgs false
set_option linter.unusedVariables false

/-- A Table's box, filled behind a call that copied its rows. -/
theorem tabAt_new {w : World} {base : Nat} {room : Int} {L : List Fd} {a : Option Addr} {p : Nat} (ho : w.ownsRow base 28 2 (.slice a L.length p) L.length (fv L)) :
    TabAt (w.alloc (.cells #[.int .i64 room, .slice a L.length p] 26)) w.heap.size base room L :=
  ⟨⟨a, p, rowIs_new w 26 [.int .i64 room, .slice a L.length p], ho.alloc _, fun hq => by have := (ho.lt _ hq).2; omega⟩⟩
theorem tabAt_room {w : World} {g base : Nat} {room : Int} {L : List Fd} (h : TabAt w g base room L) (r : Int) : TabAt (w.setCell ⟨g, 0, none⟩ (.int .i64 r)) g base r L := by
  obtain ⟨a, p, h1, h2, h3⟩ := h.ex
  exact ⟨⟨a, p, h1.set 0 _, owns_apart h2 _ _ h3, h3⟩⟩
theorem tabAt_later {w w' : World} {g base : Nat} {room : Int} {L : List Fd} (h : TabAt w g base room L) (hb : Below w.heap.size w w') : TabAt w' g base room L := by
  obtain ⟨a, p, h1, h2, h3⟩ := h.ex
  exact ⟨⟨a, p, h1.new hb, owns_new h2 hb, h3⟩⟩

set_option maxRecDepth 100000 in
set_option maxHeartbeats 4000000 in
theorem specNoted (L : List Fd) (room : Int) (v : Value) (f : Fd) (w : World) (hr0 : Reads w v L.length 2 (fv L)) (hf : ∀ f ∈ L, f.fine) (hff : f.fine) :
    Calls Try.prog 18 #[.agg #[.int .i64 room, v], .agg #[.string f.n, .string f.v]] w fun x w' => ∃ v', x = .returned (.tuple #[.agg #[.int .i64 (notedD room L f).1.1, v'], .bool (notedD room L f).2]) ∧ w'.ownsRow w.heap.size 28 2 v' (notedD room L f).1.2.length (fv (notedD room L f).1.2) ∧ Below w.heap.size w w' := by
  obtain ⟨D, hD⟩ : ∃ D, D = notedD room L f := ⟨_, rfl⟩
  rw [← hD]
  have HD := hide hD
  have HR := hide hr0
  obtain ⟨hl, ad, cap, rfl, h1, h2, h3⟩ := hr0
  clear h3 hD
  go_enter Try.func18, Try.ntmps18
  go_wp2_with fail
  generalize hV : ((w.alloc (.cells #[.int .i64 room, .slice ad L.length cap] 26)).alloc (.cells #[.string f.n, .string f.v] 28)).alloc (.cells #[.int .i64 0, .slice none 0 0] 26) = V
  have HBW : Hid (Below w.heap.size w V) := by show Below _ _ _; rw [← hV]; exact bo_alloc (bo_alloc ((Below.refl _ _).alloc (Nat.le_refl _) _) _) _
  have HX : Hid (RowIs V w.heap.size 26 [.int .i64 room, .slice ad L.length cap]) := by show RowIs _ _ _ _; rw [← hV]; exact ((rowIs_new w 26 [.int .i64 room, .slice ad L.length cap]).alloc _).alloc _
  have HY : Hid (RowIs V (w.heap.size + 1) 28 [.string f.n, .string f.v]) := by show RowIs _ _ _ _; rw [← hV]; exact (by simpa using rowIs_new (w.alloc (.cells #[.int .i64 room, .slice ad L.length cap] 26)) 28 [.string f.n, .string f.v] : RowIs _ (w.heap.size + 1) _ _).alloc _
  have HRR : Hid (RowIs V (w.heap.size + 1 + 1) 26 [.int .i64 0, .slice none 0 0]) := by show RowIs _ _ _ _; rw [← hV]; simpa using rowIs_new ((w.alloc (.cells #[.int .i64 room, .slice ad L.length cap] 26)).alloc (.cells #[.string f.n, .string f.v] 28)) 26 [.int .i64 0, .slice none 0 0]
  have hlV := HRR.out.lt
  clear hV
  refine (specTOk L room _ _ (HR.out.new HBW.out) hf).mono ?_
  cases hR : okT room L
  · rintro x w1 ⟨rfl, hb1⟩
    replace HX := hide (HX.out.new hb1)
    replace HY := hide (HY.out.new hb1)
    replace HRR := hide (HRR.out.new hb1)
    replace HBW := hide (bchain HBW.out hb1)
    have HDD : Hid (D = ((0, []), false)) := by show _ = _; rw [HD.out]; simp [notedD, hR]
    clear hb1
    have r0 := HRR.out.cell (j := 0) rfl
    have r1 := HRR.out.cell (j := 1) rfl
    have r2 := HRR.out.frozen 0
    have r3 := HRR.out.frozen 1
    go_wp2_with fail
    refine bodyPost_ret (v := (.tuple #[.agg #[.int .i64 0, .slice none 0 0], .bool false])) (by simp [results, Try.results18, go_sem, *]) rfl ?_
    rw [HDD.out]
    exact ⟨_, rfl, own_nil _ _ _, (HBW.out.setCell (show w.heap.size ≤ w.heap.size + 1 + 1 by omega) _).setCell (show w.heap.size ≤ w.heap.size + 1 + 1 by omega) _⟩
  rintro x w1 ⟨rfl, hb1⟩
  replace HX := hide (HX.out.new hb1)
  replace HY := hide (HY.out.new hb1)
  replace HRR := hide (HRR.out.new hb1)
  replace HBW := hide (bchain HBW.out hb1)
  have hb1s := hb1.size
  clear hb1
  obtain ⟨hrm0, hrm1, hall, hsum, hlen⟩ := okT_parts hR
  have HALL := hide hall
  clear hall
  have x0 := HX.out.cell (j := 0) rfl
  have x1 := HX.out.cell (j := 1) rfl
  go_wp2_with fail
  refine (copy1 L room _ _ (HR.out.new HBW.out) (by omega)).mono ?_
  rintro x w2 ⟨v2, rfl, ho2, hb2⟩
  obtain ⟨a2, p2, rfl, _⟩ := owns_form ho2
  replace HX := hide (HX.out.new hb2)
  replace HY := hide (HY.out.new hb2)
  replace HRR := hide (HRR.out.new hb2)
  replace HBW := hide (bchain HBW.out hb2)
  have hb2s := hb2.size
  clear hb2 x0 x1
  have HTA := hide (tabAt_new (room := room) ho2)
  clear ho2
  go_upto_region 4 with fail
  have hb3 : Below w2.heap.size w2 (w2.alloc (.cells #[.int .i64 room, .slice a2 L.length p2] 26)) := (Below.refl _ _).alloc (Nat.le_refl _) _
  generalize w2.alloc (.cells #[.int .i64 room, .slice a2 L.length p2] 26) = w3 at *
  replace HX := hide (HX.out.new hb3)
  replace HY := hide (HY.out.new hb3)
  replace HRR := hide (HRR.out.new hb3)
  replace HBW := hide (bchain HBW.out hb3)
  have hb3s := hb3.size
  clear hb3
  have y0 := HY.out.cell (j := 0) rfl
  have y1 := HY.out.cell (j := 1) rfl
  go_wp2_with fail
  refine (specField f _ hff).mono ?_
  rintro x w4 ⟨rfl, hb4⟩
  replace HX := hide (HX.out.new hb4)
  replace HY := hide (HY.out.new hb4)
  replace HRR := hide (HRR.out.new hb4)
  replace HBW := hide (bchain HBW.out hb4)
  replace HTA := hide (tabAt_later HTA.out hb4)
  have hb4s := hb4.size
  clear hb4 y0 y1
  cases hok : okF f
  · have HDD : Hid (D = ((room, L), false)) := by show _ = _; rw [HD.out]; simp [notedD, hR, hok]
    go_upto_region 5 with fail
    obtain ⟨a9, p9, hrow, hown, _⟩ := HTA.out.ex
    have HO := hide hown
    have hov : ∀ q, (Value.slice a9 (L).length p9).ownBlock = some q → w.heap.size + 1 + 1 + 1 ≤ q := fun q hq => by have h1 := (hown.lt q hq).1; omega
    have t0 := hrow.cell (j := 0) rfl
    have t1 := hrow.cell (j := 1) rfl
    clear hrow hown
    have r0 := HRR.out.cell (j := 0) rfl
    have r1 := HRR.out.cell (j := 1) rfl
    have r2 := HRR.out.frozen 0
    have r3 := HRR.out.frozen 1
    generalize hgl : (L).length = gl at *
    go_wp2_with fail
    refine bodyPost_ret (v := (.tuple #[.agg #[.int .i64 (room), .slice a9 gl p9], .bool false])) (by simp [results, Try.results18, go_sem, *]) rfl ?_
    rw [HDD.out]
    subst hgl
    exact ⟨_, rfl, (owns_base (owns_far (w.heap.size + 1 + 1 + 1) (owns_far (w.heap.size + 1 + 1 + 1) HO.out hov _ _ (show w.heap.size + 1 + 1 < w.heap.size + 1 + 1 + 1 by omega)) hov _ _ (show w.heap.size + 1 + 1 < w.heap.size + 1 + 1 + 1 by omega)) (fun q hq => by have := hov q hq; omega)), (HBW.out.setCell (show w.heap.size ≤ w.heap.size + 1 + 1 by omega) _).setCell (show w.heap.size ≤ w.heap.size + 1 + 1 by omega) _⟩
  · have HDD : Hid (D = ((room, shr room (f :: L)), true)) := by show _ = _; rw [HD.out]; simp [notedD, hR, hok]
    have y0 := HY.out.cell (j := 0) rfl
    have y1 := HY.out.cell (j := 1) rfl
    go_wp2_with fail
    refine (note1 w2.heap.size w1.heap.size room L f _ HTA.out HALL.out hok hrm0 (by omega) (by omega)).mono ?_; rintro x w5 ⟨rfl, hta5, ht5⟩
    clear y0 y1
    replace HX := hide (HX.out.kept (ht5.block _ HX.out.lt (by omega)))
    replace HY := hide (HY.out.kept (ht5.block _ HY.out.lt (by omega)))
    replace HRR := hide (HRR.out.kept (ht5.block _ HRR.out.lt (by omega)))
    replace HBW := hide (HBW.out.trans (ht5.below (by omega) HBW.out.size))
    have hb5s := ht5.size
    clear ht5
    replace HTA := hide hta5
    clear hta5
    go_upto_region 7 with fail
    obtain ⟨a9, p9, hrow, hown, _⟩ := HTA.out.ex
    have HO := hide hown
    have hov : ∀ q, (Value.slice a9 (shr room (f :: L)).length p9).ownBlock = some q → w.heap.size + 1 + 1 + 1 ≤ q := fun q hq => by have h1 := (hown.lt q hq).1; omega
    have t0 := hrow.cell (j := 0) rfl
    have t1 := hrow.cell (j := 1) rfl
    clear hrow hown
    have r0 := HRR.out.cell (j := 0) rfl
    have r1 := HRR.out.cell (j := 1) rfl
    have r2 := HRR.out.frozen 0
    have r3 := HRR.out.frozen 1
    generalize hgl : (shr room (f :: L)).length = gl at *
    go_wp2_with fail
    refine bodyPost_ret (v := (.tuple #[.agg #[.int .i64 (room), .slice a9 gl p9], .bool true])) (by simp [results, Try.results18, go_sem, *]) rfl ?_
    rw [HDD.out]
    subst hgl
    exact ⟨_, rfl, (owns_base (owns_far (w.heap.size + 1 + 1 + 1) (owns_far (w.heap.size + 1 + 1 + 1) HO.out hov _ _ (show w.heap.size + 1 + 1 < w.heap.size + 1 + 1 + 1 by omega)) hov _ _ (show w.heap.size + 1 + 1 < w.heap.size + 1 + 1 + 1 by omega)) (fun q hq => by have := hov q hq; omega)), (HBW.out.setCell (show w.heap.size ≤ w.heap.size + 1 + 1 by omega) _).setCell (show w.heap.size ≤ w.heap.size + 1 + 1 by omega) _⟩

set_option maxRecDepth 100000 in
set_option maxHeartbeats 4000000 in
theorem specResized (L : List Fd) (room : Int) (v : Value) (r : Int) (w : World) (hr0 : Reads w v L.length 2 (fv L)) (hf : ∀ f ∈ L, f.fine) :
    Calls Try.prog 24 #[.agg #[.int .i64 room, v], .int .i64 r] w fun x w' => ∃ v', x = .returned (.tuple #[.agg #[.int .i64 (resizedD room L r).1.1, v'], .bool (resizedD room L r).2]) ∧ w'.ownsRow w.heap.size 28 2 v' (resizedD room L r).1.2.length (fv (resizedD room L r).1.2) ∧ Below w.heap.size w w' := by
  obtain ⟨D, hD⟩ : ∃ D, D = resizedD room L r := ⟨_, rfl⟩
  rw [← hD]
  have HD := hide hD
  have HR := hide hr0
  obtain ⟨hl, ad, cap, rfl, h1, h2, h3⟩ := hr0
  clear h3 hD
  go_enter Try.func24, Try.ntmps24
  go_wp2_with fail
  generalize hV : (w.alloc (.cells #[.int .i64 room, .slice ad L.length cap] 26)).alloc (.cells #[.int .i64 0, .slice none 0 0] 26) = V
  have HBW : Hid (Below w.heap.size w V) := by show Below _ _ _; rw [← hV]; exact bo_alloc ((Below.refl _ _).alloc (Nat.le_refl _) _) _
  have HX : Hid (RowIs V w.heap.size 26 [.int .i64 room, .slice ad L.length cap]) := by show RowIs _ _ _ _; rw [← hV]; exact (rowIs_new w 26 [.int .i64 room, .slice ad L.length cap]).alloc _
  have HRR : Hid (RowIs V (w.heap.size + 1) 26 [.int .i64 0, .slice none 0 0]) := by show RowIs _ _ _ _; rw [← hV]; simpa using rowIs_new (w.alloc (.cells #[.int .i64 room, .slice ad L.length cap] 26)) 26 [.int .i64 0, .slice none 0 0]
  have hlV := HRR.out.lt
  clear hV
  refine (specTOk L room _ _ (HR.out.new HBW.out) hf).mono ?_
  cases hR : okT room L
  · rintro x w1 ⟨rfl, hb1⟩
    replace HX := hide (HX.out.new hb1)
    replace HRR := hide (HRR.out.new hb1)
    replace HBW := hide (bchain HBW.out hb1)
    have HDD : Hid (D = ((0, []), false)) := by show _ = _; rw [HD.out]; simp [resizedD, hR]
    clear hb1
    have r0 := HRR.out.cell (j := 0) rfl
    have r1 := HRR.out.cell (j := 1) rfl
    have r2 := HRR.out.frozen 0
    have r3 := HRR.out.frozen 1
    go_wp2_with fail
    refine bodyPost_ret (v := (.tuple #[.agg #[.int .i64 0, .slice none 0 0], .bool false])) (by simp [results, Try.results24, go_sem, *]) rfl ?_
    rw [HDD.out]
    exact ⟨_, rfl, own_nil _ _ _, (HBW.out.setCell (show w.heap.size ≤ w.heap.size + 1 by omega) _).setCell (show w.heap.size ≤ w.heap.size + 1 by omega) _⟩
  rintro x w1 ⟨rfl, hb1⟩
  replace HX := hide (HX.out.new hb1)
  replace HRR := hide (HRR.out.new hb1)
  replace HBW := hide (bchain HBW.out hb1)
  have hb1s := hb1.size
  clear hb1
  obtain ⟨hrm0, hrm1, hall, hsum, hlen⟩ := okT_parts hR
  have HALL := hide hall
  clear hall
  have x0 := HX.out.cell (j := 0) rfl
  have x1 := HX.out.cell (j := 1) rfl
  go_wp2_with fail
  refine (copy1 L room _ _ (HR.out.new HBW.out) (by omega)).mono ?_
  rintro x w2 ⟨v2, rfl, ho2, hb2⟩
  obtain ⟨a2, p2, rfl, _⟩ := owns_form ho2
  replace HX := hide (HX.out.new hb2)
  replace HRR := hide (HRR.out.new hb2)
  replace HBW := hide (bchain HBW.out hb2)
  have hb2s := hb2.size
  clear hb2 x0 x1
  have HTA := hide (tabAt_new (room := room) ho2)
  clear ho2
  go_upto_region 4 with fail
  have hb3 : Below w2.heap.size w2 (w2.alloc (.cells #[.int .i64 room, .slice a2 L.length p2] 26)) := (Below.refl _ _).alloc (Nat.le_refl _) _
  generalize w2.alloc (.cells #[.int .i64 room, .slice a2 L.length p2] 26) = w3 at *
  replace HX := hide (HX.out.new hb3)
  replace HRR := hide (HRR.out.new hb3)
  replace HBW := hide (bchain HBW.out hb3)
  have hb3s := hb3.size
  clear hb3
  go_wp2_with fail
  refine (specIn r 0 1000 _).mono ?_
  rintro x w4 ⟨rfl, rfl⟩
  cases hok : inB r 0 1000
  · have HDD : Hid (D = ((room, L), false)) := by show _ = _; rw [HD.out]; simp [resizedD, hR, hok]
    go_upto_region 5 with fail
    obtain ⟨a9, p9, hrow, hown, _⟩ := HTA.out.ex
    have HO := hide hown
    have hov : ∀ q, (Value.slice a9 (L).length p9).ownBlock = some q → w.heap.size + 1 + 1 ≤ q := fun q hq => by have h1 := (hown.lt q hq).1; omega
    have t0 := hrow.cell (j := 0) rfl
    have t1 := hrow.cell (j := 1) rfl
    clear hrow hown
    have r0 := HRR.out.cell (j := 0) rfl
    have r1 := HRR.out.cell (j := 1) rfl
    have r2 := HRR.out.frozen 0
    have r3 := HRR.out.frozen 1
    generalize hgl : (L).length = gl at *
    go_wp2_with fail
    refine bodyPost_ret (v := (.tuple #[.agg #[.int .i64 (room), .slice a9 gl p9], .bool false])) (by simp [results, Try.results24, go_sem, *]) rfl ?_
    rw [HDD.out]
    subst hgl
    exact ⟨_, rfl, (owns_base (owns_far (w.heap.size + 1 + 1) (owns_far (w.heap.size + 1 + 1) HO.out hov _ _ (show w.heap.size + 1 < w.heap.size + 1 + 1 by omega)) hov _ _ (show w.heap.size + 1 < w.heap.size + 1 + 1 by omega)) (fun q hq => by have := hov q hq; omega)), (HBW.out.setCell (show w.heap.size ≤ w.heap.size + 1 by omega) _).setCell (show w.heap.size ≤ w.heap.size + 1 by omega) _⟩
  · have HDD : Hid (D = ((r, shr r L), true)) := by show _ = _; rw [HD.out]; simp [resizedD, hR, hok]
    obtain ⟨a8, p8, hrow8, _, _⟩ := HTA.out.ex
    have u0 := hrow8.cell (j := 0) rfl
    have u1 := hrow8.frozen 0
    clear hrow8
    go_upto_region 7 with fail
    replace HTA := hide (tabAt_room HTA.out r)
    clear u0 u1
    have ht6 : Turn w2.heap.size (w2.heap.size + 1) w4 (w4.setCell ⟨w2.heap.size, 0, none⟩ (.int .i64 r)) := (Turn.refl _ _ _).setCell (p := ⟨w2.heap.size, 0, none⟩) _ (.inl ⟨Nat.le_refl _, Nat.lt_succ_self _⟩)
    generalize w4.setCell ⟨w2.heap.size, 0, none⟩ (.int .i64 r) = w6 at *
    replace HX := hide (HX.out.kept (ht6.block _ HX.out.lt (by omega)))
    replace HRR := hide (HRR.out.kept (ht6.block _ HRR.out.lt (by omega)))
    replace HBW := hide (HBW.out.trans (ht6.below (by omega) HBW.out.size))
    have hb6s := ht6.size
    clear ht6
    go_wp2_with fail
    refine (shrink1 w2.heap.size w1.heap.size r L _ HTA.out HALL.out (inB_true hok).1 (by omega)).mono ?_; rintro x w5 ⟨rfl, hta5, ht5⟩
    replace HX := hide (HX.out.kept (ht5.block _ HX.out.lt (by omega)))
    replace HRR := hide (HRR.out.kept (ht5.block _ HRR.out.lt (by omega)))
    replace HBW := hide (HBW.out.trans (ht5.below (by omega) HBW.out.size))
    have hb5s := ht5.size
    clear ht5
    replace HTA := hide hta5
    clear hta5
    go_upto_region 8 with fail
    obtain ⟨a9, p9, hrow, hown, _⟩ := HTA.out.ex
    have HO := hide hown
    have hov : ∀ q, (Value.slice a9 (shr r L).length p9).ownBlock = some q → w.heap.size + 1 + 1 ≤ q := fun q hq => by have h1 := (hown.lt q hq).1; omega
    have t0 := hrow.cell (j := 0) rfl
    have t1 := hrow.cell (j := 1) rfl
    clear hrow hown
    have r0 := HRR.out.cell (j := 0) rfl
    have r1 := HRR.out.cell (j := 1) rfl
    have r2 := HRR.out.frozen 0
    have r3 := HRR.out.frozen 1
    generalize hgl : (shr r L).length = gl at *
    go_wp2_with fail
    refine bodyPost_ret (v := (.tuple #[.agg #[.int .i64 (r), .slice a9 gl p9], .bool true])) (by simp [results, Try.results24, go_sem, *]) rfl ?_
    rw [HDD.out]
    subst hgl
    exact ⟨_, rfl, (owns_base (owns_far (w.heap.size + 1 + 1) (owns_far (w.heap.size + 1 + 1) HO.out hov _ _ (show w.heap.size + 1 < w.heap.size + 1 + 1 by omega)) hov _ _ (show w.heap.size + 1 < w.heap.size + 1 + 1 by omega)) (fun q hq => by have := hov q hq; omega)), (HBW.out.setCell (show w.heap.size ≤ w.heap.size + 1 by omega) _).setCell (show w.heap.size ≤ w.heap.size + 1 by omega) _⟩

end Go.Proofs.Ythjbmmppckgcjaa
