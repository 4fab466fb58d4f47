/- RowAt of the program and of the model, in plain words: row n of a right Table. -/
import Derived.Test.YthjbmmppckgcjaaImplTOk
import Derived.Test.YthjbmmppckgcjaaNotedD

namespace Go.Proofs.Ythjbmmppckgcjaa
open Go.RowKit
set_option linter.unusedSimpArgs false
set_option linter.unusedVariables false
/-- What RowAt answers of a Table of this Room and these Rows. -/
def rowAtD (room : Int) (L : List Fd) (n : Int) : Fd × Bool := if okT room L then (if inB n 1 L.length then (L.getD (n.toNat - 1) ⟨⟨#[]⟩, ⟨#[]⟩⟩, true) else (⟨⟨#[]⟩, ⟨#[]⟩⟩, false)) else (⟨⟨#[]⟩, ⟨#[]⟩⟩, false)

set_option maxHeartbeats 1000000 in
theorem specRowAt (L : List Fd) (room : Int) (v : Value) (n : Int) (w : World) (hr0 : Reads w v L.length 2 (fv L)) (hf : ∀ f ∈ L, f.fine) :
    Calls Try.prog 25 #[.agg #[.int .i64 room, v], .int .i64 n] w fun x w' => x = .returned (.tuple #[.agg #[.string (rowAtD room L n).1.n, .string (rowAtD room L n).1.v], .bool (rowAtD room L n).2]) ∧ Below w.heap.size w w' := by
  obtain ⟨D, hD⟩ : ∃ D, D = rowAtD room L n := ⟨_, rfl⟩
  rw [← hD]
  have HD := hide hD
  have HR := hide hr0
  obtain ⟨hl, ad, cap, rfl, h1, h2, h3⟩ := hr0
  have H3 := hide h3
  unfold maxLen at h2
  clear h3 hD
  go_enter Try.func25, Try.ntmps25
  go_wp2_with fail
  generalize hV : (w.alloc (.cells #[.int .i64 room, .slice ad L.length cap] 26)).alloc (.cells #[.string ⟨#[]⟩, .string ⟨#[]⟩] 28) = V
  have HBW : Hid (Below w.heap.size w V) := by show Below _ _ _; rw [← hV]; exact bo_alloc ((Below.refl _ _).alloc (Nat.le_refl _) _) _
  have HX : Hid (RowIs V w.heap.size 26 [.int .i64 room, .slice ad L.length cap]) := by show RowIs _ _ _ _; rw [← hV]; exact (rowIs_new w 26 [.int .i64 room, .slice ad L.length cap]).alloc _
  have HRR : Hid (RowIs V (w.heap.size + 1) 28 [.string ⟨#[]⟩, .string ⟨#[]⟩]) := by show RowIs _ _ _ _; rw [← hV]; simpa using rowIs_new (w.alloc (.cells #[.int .i64 room, .slice ad L.length cap] 26)) 28 [.string ⟨#[]⟩, .string ⟨#[]⟩]
  have hlV := HRR.out.lt
  clear hV
  refine (specTOk L room _ _ (HR.out.new HBW.out) hf).mono ?_
  rintro x w1 ⟨rfl, hb1⟩
  replace HX := hide (HX.out.new hb1)
  replace HRR := hide (HRR.out.new hb1)
  replace HBW := hide (bchain HBW.out hb1)
  replace hlV := Nat.lt_of_lt_of_le hlV hb1.size
  clear hb1
  have x0 := HX.out.cell (j := 0) rfl
  have x1 := HX.out.cell (j := 1) rfl
  have r0 := HRR.out.cell (j := 0) rfl
  have r1 := HRR.out.cell (j := 1) rfl
  have r2 := HRR.out.frozen 0
  have r3 := HRR.out.frozen 1
  cases hR : okT room L
  · have HDD : Hid (D = (⟨⟨#[]⟩, ⟨#[]⟩⟩, false)) := by show _ = _; rw [HD.out]; simp [rowAtD, hR]
    go_wp2_with fail
    refine bodyPost_ret (v := (.tuple #[.agg #[.string ⟨#[]⟩, .string ⟨#[]⟩], .bool false])) (by simp [results, Try.results25, go_sem, *]) rfl ?_
    rw [HDD.out]
    exact ⟨rfl, (HBW.out.setCell (show w.heap.size ≤ w.heap.size + 1 by omega) _).setCell (show w.heap.size ≤ w.heap.size + 1 by omega) _⟩
  cases hin : inB n 1 L.length
  · have HDD : Hid (D = (⟨⟨#[]⟩, ⟨#[]⟩⟩, false)) := by show _ = _; rw [HD.out]; simp [rowAtD, hR, hin]
    go_wp2_with fail
    refine (specIn _ _ _ _).mono ?_; rw [hin]; rintro x w2 ⟨rfl, rfl⟩
    go_wp2_with fail
    refine bodyPost_ret (v := (.tuple #[.agg #[.string ⟨#[]⟩, .string ⟨#[]⟩], .bool false])) (by simp [results, Try.results25, go_sem, *]) rfl ?_
    rw [HDD.out]
    exact ⟨rfl, (HBW.out.setCell (show w.heap.size ≤ w.heap.size + 1 by omega) _).setCell (show w.heap.size ≤ w.heap.size + 1 by omega) _⟩
  obtain ⟨hn1, hn2⟩ := inB_true hin
  obtain ⟨k, rfl⟩ : ∃ k : Nat, n = (k : Int) + 1 := ⟨(n - 1).toNat, by omega⟩
  have hk : k < L.length := by omega
  have hok := (okT_parts hR).2.2.1 _ (List.getElem_mem hk)
  have HDD : Hid (D = (L[k], true)) := by show _ = _; rw [HD.out]; have h9 : ((k : Int) + 1).toNat - 1 = k := by omega
                                          simp [rowAtD, hR, hin, h9, hk]
  obtain ⟨b, o, rfl, hbw, hc⟩ := H3.out (by omega)
  obtain ⟨s0, s1⟩ := fv_get L k hk
  obtain ⟨f, hff⟩ : ∃ f, f = L[k] := ⟨_, rfl⟩
  rw [← hff] at s0 s1 HDD hok
  have c0 : w1.cell? ⟨b, o + k * 2, none⟩ = some (.string f.n) := by rw [HBW.out.cell (p := ⟨b, o + k * 2, none⟩) hbw]; exact hc _ _ s0
  have c1 : w1.cell? ⟨b, o + k * 2 + 1, none⟩ = some (.string f.v) := by rw [HBW.out.cell (p := ⟨b, o + k * 2 + 1, none⟩) hbw]; exact hc _ _ s1
  clear hc s0 s1 hff
  go_wp2_with fail
  refine (specIn _ _ _ _).mono ?_; rw [hin]; rintro x w2 ⟨rfl, rfl⟩
  go_wp2_with fail
  refine bodyPost_ret (v := (.tuple #[.agg #[.string f.n, .string f.v], .bool true])) (by simp [results, Try.results25, go_sem, *]) rfl ?_
  rw [HDD.out]
  exact ⟨rfl, (HBW.out.setCell (show w.heap.size ≤ w.heap.size + 1 by omega) _).setCell (show w.heap.size ≤ w.heap.size + 1 by omega) _⟩

set_option maxHeartbeats 1000000 in
theorem implRowAt (L : List Fd) (room : Int) (v : Value) (n : Int) (w : World) (hr0 : Reads w v L.length 2 (fv L)) (hf : ∀ f ∈ L, f.fine) :
    Calls Try.prog 15 #[.agg #[.int .i64 room, v], .int .i64 n] w fun x w' => x = .returned (.tuple #[.agg #[.string (rowAtD room L n).1.n, .string (rowAtD room L n).1.v], .bool (rowAtD room L n).2]) ∧ Below w.heap.size w w' := by
  obtain ⟨D, hD⟩ : ∃ D, D = rowAtD room L n := ⟨_, rfl⟩
  rw [← hD]
  have HD := hide hD
  have HR := hide hr0
  obtain ⟨hl, ad, cap, rfl, h1, h2, h3⟩ := hr0
  have H3 := hide h3
  unfold maxLen at h2
  clear h3 hD
  go_enter Try.func15, Try.ntmps15
  go_wp2_with fail
  generalize hV : (w.alloc (.cells #[.int .i64 room, .slice ad L.length cap] 26)).alloc (.cells #[.string ⟨#[]⟩, .string ⟨#[]⟩] 28) = V
  have HBW : Hid (Below w.heap.size w V) := by show Below _ _ _; rw [← hV]; exact bo_alloc ((Below.refl _ _).alloc (Nat.le_refl _) _) _
  have HX : Hid (RowIs V w.heap.size 26 [.int .i64 room, .slice ad L.length cap]) := by show RowIs _ _ _ _; rw [← hV]; exact (rowIs_new w 26 [.int .i64 room, .slice ad L.length cap]).alloc _
  have HRR : Hid (RowIs V (w.heap.size + 1) 28 [.string ⟨#[]⟩, .string ⟨#[]⟩]) := by show RowIs _ _ _ _; rw [← hV]; simpa using rowIs_new (w.alloc (.cells #[.int .i64 room, .slice ad L.length cap] 26)) 28 [.string ⟨#[]⟩, .string ⟨#[]⟩]
  have hlV := HRR.out.lt
  clear hV
  refine (implTOk L room _ _ (HR.out.new HBW.out) hf).mono ?_
  rintro x w1 ⟨rfl, hb1⟩
  replace HX := hide (HX.out.new hb1)
  replace HRR := hide (HRR.out.new hb1)
  replace HBW := hide (bchain HBW.out hb1)
  replace hlV := Nat.lt_of_lt_of_le hlV hb1.size
  clear hb1
  have x0 := HX.out.cell (j := 0) rfl
  have x1 := HX.out.cell (j := 1) rfl
  have r0 := HRR.out.cell (j := 0) rfl
  have r1 := HRR.out.cell (j := 1) rfl
  have r2 := HRR.out.frozen 0
  have r3 := HRR.out.frozen 1
  cases hR : okT room L
  · have HDD : Hid (D = (⟨⟨#[]⟩, ⟨#[]⟩⟩, false)) := by show _ = _; rw [HD.out]; simp [rowAtD, hR]
    go_wp2_with fail
    refine bodyPost_ret (v := (.tuple #[.agg #[.string ⟨#[]⟩, .string ⟨#[]⟩], .bool false])) (by simp [results, Try.results15, go_sem, *]) rfl ?_
    rw [HDD.out]
    exact ⟨rfl, (HBW.out.setCell (show w.heap.size ≤ w.heap.size + 1 by omega) _).setCell (show w.heap.size ≤ w.heap.size + 1 by omega) _⟩
  cases hin : inB n 1 L.length
  · have HDD : Hid (D = (⟨⟨#[]⟩, ⟨#[]⟩⟩, false)) := by show _ = _; rw [HD.out]; simp [rowAtD, hR, hin]
    go_wp2_with fail
    refine (implWithin _ _ _ _).mono ?_; rw [hin]; rintro x w2 ⟨rfl, rfl⟩
    go_wp2_with fail
    refine bodyPost_ret (v := (.tuple #[.agg #[.string ⟨#[]⟩, .string ⟨#[]⟩], .bool false])) (by simp [results, Try.results15, go_sem, *]) rfl ?_
    rw [HDD.out]
    exact ⟨rfl, (HBW.out.setCell (show w.heap.size ≤ w.heap.size + 1 by omega) _).setCell (show w.heap.size ≤ w.heap.size + 1 by omega) _⟩
  obtain ⟨hn1, hn2⟩ := inB_true hin
  obtain ⟨k, rfl⟩ : ∃ k : Nat, n = (k : Int) + 1 := ⟨(n - 1).toNat, by omega⟩
  have hk : k < L.length := by omega
  have hok := (okT_parts hR).2.2.1 _ (List.getElem_mem hk)
  have HDD : Hid (D = (L[k], true)) := by show _ = _; rw [HD.out]; have h9 : ((k : Int) + 1).toNat - 1 = k := by omega
                                          simp [rowAtD, hR, hin, h9, hk]
  obtain ⟨b, o, rfl, hbw, hc⟩ := H3.out (by omega)
  obtain ⟨s0, s1⟩ := fv_get L k hk
  obtain ⟨f, hff⟩ : ∃ f, f = L[k] := ⟨_, rfl⟩
  rw [← hff] at s0 s1 HDD hok
  have c0 : w1.cell? ⟨b, o + k * 2, none⟩ = some (.string f.n) := by rw [HBW.out.cell (p := ⟨b, o + k * 2, none⟩) hbw]; exact hc _ _ s0
  have c1 : w1.cell? ⟨b, o + k * 2 + 1, none⟩ = some (.string f.v) := by rw [HBW.out.cell (p := ⟨b, o + k * 2 + 1, none⟩) hbw]; exact hc _ _ s1
  clear hc s0 s1 hff
  go_wp2_with fail
  refine (implWithin _ _ _ _).mono ?_; rw [hin]; rintro x w2 ⟨rfl, rfl⟩
  go_wp2_with fail
  refine (apart1 f _ hok).mono ?_; rintro x w3 ⟨rfl, hb3⟩
  replace HRR := hide (HRR.out.new hb3)
  replace HBW := hide (bchain HBW.out hb3)
  clear hb3 x0 x1 r0 r1 r2 r3 c0 c1
  have r0 := HRR.out.cell (j := 0) rfl
  have r1 := HRR.out.cell (j := 1) rfl
  have r2 := HRR.out.frozen 0
  have r3 := HRR.out.frozen 1
  go_wp2_with fail
  refine bodyPost_ret (v := (.tuple #[.agg #[.string f.n, .string f.v], .bool true])) (by simp [results, Try.results15, go_sem, *]) rfl ?_
  rw [HDD.out]
  exact ⟨rfl, (HBW.out.setCell (show w.heap.size ≤ w.heap.size + 1 by omega) _).setCell (show w.heap.size ≤ w.heap.size + 1 by omega) _⟩
end Go.Proofs.Ythjbmmppckgcjaa
