/- Chapter 7: one frame is read by the program. -/
import Derived.Test.YtelcnojmfkoboaaDoorFrErr2
import Derived.Test.YtelcnojmfkoboaaDoorFrRead0
import Derived.Deep.RegionWith

namespace Go.Proofs.YtelcnojmfkoboaaDoor
open Go.RowKit
set_option maxRecDepth 100000
set_option linter.unusedSimpArgs false
set_option linter.unusedVariables false
/-- The program's two errors and the handle of the type error lie where the program's text lays them. -/
structure Errs (w : World) (a0 a2 : Addr) : Prop where
  c0 : w.cell? ⟨0, 0, none⟩ = some (.iface 105 (.pointer (some a0)))
  c1 : w.cell? ⟨1, 0, none⟩ = some (.iface 89 (.agg #[.pointer (some ⟨3, 48, none⟩)]))
  c2 : w.cell? ⟨2, 0, none⟩ = some (.iface 105 (.pointer (some a2)))
  ne : a2 ≠ a0
  b0 : ∃ cs t, w.heap[a0.block]? = some (.cells cs t (0, 0))
  b2 : ∃ cs t, w.heap[a2.block]? = some (.cells cs t (0, 0))
theorem Errs.lt {w : World} {a0 a2 : Addr} (h : Errs w a0 a2) : 0 < w.heap.size ∧ 1 < w.heap.size ∧ 2 < w.heap.size :=
  ⟨World.block_lt_of_cell? w _ h.c0, World.block_lt_of_cell? w _ h.c1, World.block_lt_of_cell? w _ h.c2⟩
theorem Errs.new {w w' : World} {a0 a2 : Addr} (h : Errs w a0 a2) (hb : Below w.heap.size w w') : Errs w' a0 a2 := by
  obtain ⟨l0, l1, l2⟩ := h.lt
  obtain ⟨x0, t0, e0⟩ := h.b0
  obtain ⟨x2, t2, e2⟩ := h.b2
  exact ⟨(hb.cell (p := ⟨0, 0, none⟩) l0).trans h.c0, (hb.cell (p := ⟨1, 0, none⟩) l1).trans h.c1, (hb.cell (p := ⟨2, 0, none⟩) l2).trans h.c2, h.ne, ⟨x0, t0, (hb.block _ (Array.getElem?_eq_some_iff.1 e0).1).trans e0⟩, ⟨x2, t2, (hb.block _ (Array.getElem?_eq_some_iff.1 e2).1).trans e2⟩⟩
theorem Errs.set {w : World} {a0 a2 : Addr} (h : Errs w a0 a2) (p : Addr) (v : Value) (hp : a0.block < p.block ∧ a2.block < p.block ∧ 0 < p.block ∧ 1 < p.block ∧ 2 < p.block) : Errs (w.setCell p v) a0 a2 := by
  obtain ⟨l0, l1, l2⟩ := h.lt
  obtain ⟨x0, t0, e0⟩ := h.b0
  obtain ⟨x2, t2, e2⟩ := h.b2
  have hb : ∀ k, k ≠ p.block → (w.setCell p v).heap[k]? = w.heap[k]? := fun k hk => Below.heap_setCell w p v k hk
  exact ⟨(World.cell?_of_block (hb _ (by simp; omega))).trans h.c0, (World.cell?_of_block (hb _ (by simp; omega))).trans h.c1, (World.cell?_of_block (hb _ (by simp; omega))).trans h.c2, h.ne, ⟨x0, t0, (hb _ (by omega)).trans e0⟩, ⟨x2, t2, (hb _ (by omega)).trans e2⟩⟩
theorem Errs.alt {w : World} {a0 a2 : Addr} (h : Errs w a0 a2) : a0.block < w.heap.size ∧ a2.block < w.heap.size := by
  obtain ⟨x0, t0, e0⟩ := h.b0
  obtain ⟨x2, t2, e2⟩ := h.b2
  exact ⟨(Array.getElem?_eq_some_iff.1 e0).1, (Array.getElem?_eq_some_iff.1 e2).1⟩
/-- Which error: 0: more is wanted; 1: no frame; else none. -/
def erV (a0 a2 : Addr) : Nat → Value
  | 0 => .iface 105 (.pointer (some a2))
  | 1 => .iface 105 (.pointer (some a0))
  | _ => .nilIface
set_option maxHeartbeats 2000000 in
theorem implRead (s : ByteArray) (a0 a2 : Addr) (w : World) (hs : s.size ≤ maxLen) (he : Errs w a0 a2) :
    Calls Tryd.prog 55 #[.string s] w fun e w' => e = .returned (.tuple #[.agg #[.int .i64 (stp s).2.1.k, .int .i64 (stp s).2.1.fl, .int .i64 (stp s).2.1.st, .string (stp s).2.1.b], erV a0 a2 (stp s).1]) ∧ Below w.heap.size w w' := by
  unfold maxLen at hs
  obtain ⟨l0, l1, l2⟩ := he.lt
  have hal := he.alt
  have HE := hide he
  by_cases h7 : s.size < 7
  · have e : stp s = (0, noFr, 0) := by unfold stp; rw [if_pos h7]
    rw [e]
    obtain ⟨g0, _, g2, _, _, _⟩ := he
    go_enter Tryd.func55, Tryd.ntmps55
    go_wp2_with fail
    go_region_with fail
    all_goals (simp only [Act.put, List.getElem_toArray, List.getElem_cons_succ, List.getElem_cons_zero, List.setIfInBounds_toArray, List.set_cons_zero, List.set_cons_succ]; go_wp2_with fail)
    all_goals (refine bodyPost_ret (v := .tuple #[.agg #[.int .i64 0, .int .i64 0, .int .i64 0, .string ⟨#[]⟩], .iface 105 (.pointer (some a2))]) (by simp [results, Tryd.results55, go_sem, *]) rfl ?_)
    all_goals exact ⟨rfl, (by repeat' (first | (with_reducible exact Below.refl _ _) | (with_reducible refine Below.drew ?_) | (with_reducible refine bo_drewN _ ?_) | (with_reducible refine bo_alloc ?_ _) | (refine bchain ?_ (by with_reducible assumption)) | (with_reducible refine Below.setCell ?_ ?_ _) | go_size))⟩
  have h7' : 7 ≤ s.size := by omega
  obtain ⟨k, hk⟩ : ∃ k : Int, (s[2].toNat : Int) = k := ⟨_, rfl⟩
  obtain ⟨fl, hfl⟩ : ∃ k : Int, (s[3].toNat : Int) = k := ⟨_, rfl⟩
  obtain ⟨st, hst⟩ : ∃ k : Int, numV (s.extract 4 7) = k := ⟨_, rfl⟩
  obtain ⟨N, hN⟩ : ∃ k : Int, numV (s.extract 0 2) = k := ⟨_, rfl⟩
  have z2 : (s.extract 0 2).size = 2 := ba_extract_size (by omega) (by omega)
  have z3 : (s.extract 4 7).size = 3 := ba_extract_size (by omega) (by omega)
  have N0 : 0 ≤ N ∧ N ≤ 65535 := by have := numV_range (s := s.extract 0 2) (by omega); rw [hN, z2] at this; omega
  have k0 := byte_range s 2 (by omega)
  have f0 := byte_range s 3 (by omega)
  have eN : hdN s = N := hN
  have eF : ∀ b, hdF s b = ⟨k, fl, st, b⟩ := fun b => by unfold hdF; rw [fst_ext (by omega), fst_ext (by omega), hk, hfl, hst]
  have i2 := fun w => implNumber (s.extract 0 2) w (by unfold maxLen; omega)
  have i3 := fun w => implNumber (s.extract 4 7) w (by unfold maxLen; omega)
  rw [hN] at i2
  rw [hst] at i3
  have hlt2 : 2 < s.size := by omega
  have hlt3 : 3 < s.size := by omega
  obtain ⟨N0, N1⟩ := N0
  have HHE : stp s = if hdOk k fl st N = false then (1, noFr, 0) else if (s.size : Int) < 7 + N then (0, noFr, 0) else if okFr ⟨k, fl, st, s.extract 7 (7 + N.toNat)⟩ = false then (1, noFr, 0) else (2, ⟨k, fl, st, s.extract 7 (7 + N.toNat)⟩, 7 + N.toNat) := by
    unfold stp; rw [if_neg h7, eN, eF, eF]
  obtain ⟨R, hR⟩ : ∃ R, stp s = R := ⟨_, rfl⟩
  rw [hR] at HHE ⊢
  have HH := hide HHE
  clear HHE hR eF eN z2 z3
  go_enter Tryd.func55, Tryd.ntmps55
  go_wp2_with fail
  refine (i2 _).mono ?_; rintro e w1 ⟨rfl, rfl⟩
  go_wp2_with fail
  go_quiet (fail)
  go_wp2_with fail
  refine (i3 _).mono ?_; rintro e w1 ⟨rfl, rfl⟩
  go_wp2_with fail
  obtain ⟨V, hV⟩ : ∃ V, ((w.alloc (.cells #[.int .i64 0, .int .i64 0, .int .i64 0, .string ⟨#[]⟩] 29)).drewN nq).alloc (.cells #[.int .i64 k, .int .i64 fl, .int .i64 st, .string ⟨#[]⟩] 29) = V := ⟨_, rfl⟩
  have R2 : RowIs V w.heap.size 29 [.int .i64 0, .int .i64 0, .int .i64 0, .string ⟨#[]⟩] := by rw [← hV]; exact ((rowIs_new w 29 [.int .i64 0, .int .i64 0, .int .i64 0, .string ⟨#[]⟩]).drewN nq).alloc _
  have RF : RowIs V (w.heap.size + 1) 29 [.int .i64 k, .int .i64 fl, .int .i64 st, .string ⟨#[]⟩] := by rw [← hV]; have := rowIs_new ((w.alloc (.cells #[.int .i64 0, .int .i64 0, .int .i64 0, .string ⟨#[]⟩] 29)).drewN nq) 29 [.int .i64 k, .int .i64 fl, .int .i64 st, .string ⟨#[]⟩]; simpa using this
  have hbV : Below w.heap.size w V := by rw [← hV]; exact bo_alloc (bo_drewN _ ((Below.refl _ _).alloc (Nat.le_refl _) _)) _
  rw [hV]
  clear hV i2 i3
  have hsV := hbV.size
  have hrf := RF.lt
  replace HE := hide (HE.out.new hbV)
  cases hh : hdOk k fl st N
  · have hR1 : R = (1, noFr, 0) := by rw [HH.out, if_pos hh]
    refine (implHead k fl st N ⟨#[]⟩ _).mono ?_; rw [hh]; rintro e w2 ⟨rfl, hb2⟩
    replace R2 := R2.new hb2
    replace HE := HE.out.new hb2
    obtain ⟨g0, _, g2, _, _, _⟩ := HE
    replace hbV := bchain hbV hb2
    have x0 := RowIs.cell (j := 0) R2 rfl; have x1 := RowIs.cell (j := 1) R2 rfl; have x2 := RowIs.cell (j := 2) R2 rfl; have x3 := RowIs.cell (j := 3) R2 rfl; have x9 := fun j => RowIs.frozen R2 j
    have hl2 := R2.lt
    clear hb2 RF R2 HH he
    subst hR1
    go_wp2_with fail
    go_region_with fail
    all_goals (simp only [Act.put, List.getElem_toArray, List.getElem_cons_succ, List.getElem_cons_zero, List.setIfInBounds_toArray, List.set_cons_zero, List.set_cons_succ]; go_wp2_with fail)
    all_goals (refine bodyPost_ret (v := .tuple #[.agg #[.int .i64 0, .int .i64 0, .int .i64 0, .string ⟨#[]⟩], .iface 105 (.pointer (some a0))]) (by simp [results, Tryd.results55, go_sem, *]) rfl ?_)
    all_goals exact ⟨rfl, by repeat' (first | (with_reducible exact hbV) | (with_reducible refine Below.setCell ?_ ?_ _) | (with_reducible refine Below.alloc ?_ ?_ _) | (with_reducible refine Below.drew ?_) | (with_reducible refine bo_drewN _ ?_) | omega | (simp; done) | (simp; omega))⟩
  refine (implHead k fl st N ⟨#[]⟩ _).mono ?_; rw [hh]; rintro e w2 ⟨rfl, hb2⟩
  replace R2 := R2.new hb2
  replace RF := RF.new hb2
  replace HE := hide (HE.out.new hb2)
  replace hbV := bchain hbV hb2
  replace hrf := RF.lt
  clear hb2 hsV
  have h7i : (7 : Int) ≤ s.size := by omega
  obtain ⟨T, hT⟩ : ∃ T, s.extract 7 s.size = T := ⟨_, rfl⟩
  have hTs : (T.size : Int) = (s.size : Int) - 7 := by rw [← hT, ba_extract_size (Nat.le_refl _) h7']; omega
  have HTS := hide hTs
  have hT1 : (T.size : Int) ≤ 9223372036854775807 := by omega
  by_cases hz : (s.size : Int) < 7 + N
  · have hR1 : R = (0, noFr, 0) := by rw [HH.out, if_neg (by rw [hh]; decide), if_pos hz]
    have hz2 : (T.size : Int) < N := by omega
    obtain ⟨g0, _, g2, _, _, _⟩ := HE.out
    have x0 := RowIs.cell (j := 0) R2 rfl; have x1 := RowIs.cell (j := 1) R2 rfl; have x2 := RowIs.cell (j := 2) R2 rfl; have x3 := RowIs.cell (j := 3) R2 rfl; have x9 := fun j => RowIs.frozen R2 j
    have hl2 := R2.lt
    clear RF R2 HH he HE hTs
    subst hR1
    go_wp2_with fail
    go_region_with fail
    all_goals (simp only [Act.put, List.getElem_toArray, List.getElem_cons_succ, List.getElem_cons_zero, List.setIfInBounds_toArray, List.set_cons_zero, List.set_cons_succ]; go_wp2_with fail)
    all_goals (refine bodyPost_ret (v := .tuple #[.agg #[.int .i64 0, .int .i64 0, .int .i64 0, .string ⟨#[]⟩], .iface 105 (.pointer (some a2))]) (by simp [results, Tryd.results55, go_sem, *]) rfl ?_)
    all_goals exact ⟨rfl, by repeat' (first | (with_reducible exact hbV) | (with_reducible refine Below.setCell ?_ ?_ _) | (with_reducible refine Below.alloc ?_ ?_ _) | (with_reducible refine Below.drew ?_) | (with_reducible refine bo_drewN _ ?_) | omega | (simp; done) | (simp; omega))⟩
  obtain ⟨p1, p2, p3, p4, p5, p6, p7, p8⟩ := hd_parts hh
  obtain ⟨X, hX⟩ : ∃ X, s.extract 7 (7 + N.toNat) = X := ⟨_, rfl⟩
  have hXT : T.extract 0 N.toNat = X := by rw [← hT, ← hX]; exact ext_ext (Nat.le_refl _) (by omega)
  have hXs : X.size = N.toNat := by rw [← hX, ba_extract_size (by omega) (by omega)]; omega
  have hXn : (X.size : Int) = N := by omega
  have hXm : X.size ≤ maxLen := by unfold maxLen; omega
  have hXc : X.size ≤ 281474976710656 := by omega
  have hsl : ∀ w, (Instr.slice 9 (.string T) none (some (.int .i64 N)) none).run Tryd.prog w = .ok (.string X) w := fun w => by
    rw [run_slice_string_to_if (P := Tryd.prog) w 9 T .i64 N Tryd.underlying9, if_pos ⟨by omega, by omega⟩, hXT]
  have hh' : hdOk k fl st X.size = true := by rw [hXn]; exact hh
  have HR1 : Hid (R = if bodB k fl X = false then (1, noFr, 0) else (2, ⟨k, fl, st, X⟩, 7 + N.toNat)) := by
    show _ = _
    rw [HH.out, if_neg (by rw [hh]; decide), if_neg hz, hX, okFr_mk, hh', Bool.true_and]
  have hz2 : ¬ (T.size : Int) < N := by omega
  have HHH := hide hh'
  have y0 := RowIs.cell (j := 0) RF rfl; have y1 := RowIs.cell (j := 1) RF rfl; have y2 := RowIs.cell (j := 2) RF rfl; have y3 := RowIs.cell (j := 3) RF rfl; have y9 := fun j => RowIs.frozen RF j
  have R2' := hide R2
  have RF' := hide RF
  clear hXT hX HH hh he hXs hXn hTs R2 RF hh'
  go_wp2_with fail
  refine (clone X _ hXc).mono ?_; rintro e w3 ⟨rfl, hb3⟩
  have R2 := R2'.out.new hb3
  have RF := RF'.out.new hb3
  replace HE := hide (HE.out.new hb3)
  replace hbV := bchain hbV hb3
  clear y0 y1 y2 y3 y9 hb3 R2' RF'
  have y0 := RowIs.cell (j := 0) RF rfl; have y1 := RowIs.cell (j := 1) RF rfl; have y2 := RowIs.cell (j := 2) RF rfl; have y3 := RowIs.cell (j := 3) RF rfl; have y9 := fun j => RowIs.frozen RF j
  have hrf := RF.lt
  have RF2 := hide (RF.set 3 (.string X))
  have R22 := hide (R2.far ⟨w.heap.size + 1, 3, none⟩ (.string X) (by simp))
  have HE2 : Hid (Errs (w3.setCell ⟨w.heap.size + 1, 3, none⟩ (.string X)) a0 a2) := HE.out.set _ _ (by simp; omega)
  have hbV2 : Hid (Below w.heap.size w (w3.setCell ⟨w.heap.size + 1, 3, none⟩ (.string X))) := hbV.setCell (by simp) _
  obtain ⟨w4, hw4⟩ : ∃ u, w3.setCell ⟨w.heap.size + 1, 3, none⟩ (.string X) = u := ⟨_, rfl⟩
  rw [hw4] at RF2 R22 HE2 hbV2
  have HW4 := hide hw4
  clear hw4 RF R2 HE hbV
  go_wp2_with fail
  rw [HW4.out]
  clear HW4 y0 y1 y2 y3 y9
  cases hbo : bodB k fl X
  · have hR1 : R = (1, noFr, 0) := by rw [HR1.out, if_pos hbo]
    refine (implBody k fl st X _ hXm HHH.out).mono ?_; rw [hbo]; rintro e w5 ⟨rfl, hb5⟩
    have R2 := R22.out.new hb5
    obtain ⟨g0, _, g2, _, _, _⟩ := HE2.out.new hb5
    have hbV := bchain hbV2.out hb5
    have x0 := RowIs.cell (j := 0) R2 rfl; have x1 := RowIs.cell (j := 1) R2 rfl; have x2 := RowIs.cell (j := 2) R2 rfl; have x3 := RowIs.cell (j := 3) R2 rfl; have x9 := fun j => RowIs.frozen R2 j
    have hl2 := R2.lt
    clear hb5 RF2 R22 R2 HE2 hbV2 HR1
    subst hR1
    go_wp2_with fail
    go_region_with fail
    all_goals (simp only [Act.put, List.getElem_toArray, List.getElem_cons_succ, List.getElem_cons_zero, List.setIfInBounds_toArray, List.set_cons_zero, List.set_cons_succ]; go_wp2_with fail)
    all_goals (refine bodyPost_ret (v := .tuple #[.agg #[.int .i64 0, .int .i64 0, .int .i64 0, .string ⟨#[]⟩], .iface 105 (.pointer (some a0))]) (by simp [results, Tryd.results55, go_sem, *]) rfl ?_)
    all_goals exact ⟨rfl, by repeat' (first | (with_reducible exact hbV) | (with_reducible refine Below.setCell ?_ ?_ _) | (with_reducible refine Below.alloc ?_ ?_ _) | (with_reducible refine Below.drew ?_) | (with_reducible refine bo_drewN _ ?_) | omega | (simp; done) | (simp; omega))⟩
  · have hR1 : R = (2, ⟨k, fl, st, X⟩, 7 + N.toNat) := by rw [HR1.out, if_neg (by rw [hbo]; decide)]
    refine (implBody k fl st X _ hXm HHH.out).mono ?_; rw [hbo]; rintro e w5 ⟨rfl, hb5⟩
    have R2 := R22.out.new hb5
    have RF := RF2.out.new hb5
    have hbV := bchain hbV2.out hb5
    have x0 := RowIs.cell (j := 0) R2 rfl; have x1 := RowIs.cell (j := 1) R2 rfl; have x2 := RowIs.cell (j := 2) R2 rfl; have x3 := RowIs.cell (j := 3) R2 rfl; have x9 := fun j => RowIs.frozen R2 j
    have hl2 := R2.lt
    have y0 := RowIs.cell (j := 0) (u := .int .i64 k) RF rfl
    have y1 := RowIs.cell (j := 1) (u := .int .i64 fl) RF rfl
    have y2 := RowIs.cell (j := 2) (u := .int .i64 st) RF rfl
    have y3 := RowIs.cell (j := 3) (u := .string X) RF rfl
    have hlf := RF.lt
    clear hb5 RF2 R22 R2 RF HE2 hbV2 HR1
    subst hR1
    go_wp2_with fail
    refine bodyPost_ret (v := .tuple #[.agg #[.int .i64 k, .int .i64 fl, .int .i64 st, .string X], .nilIface]) (by simp [results, Tryd.results55, go_sem, *]) rfl ?_
    exact ⟨rfl, by repeat' (first | (with_reducible exact hbV) | (with_reducible refine Below.setCell ?_ ?_ _) | (with_reducible refine Below.alloc ?_ ?_ _) | (with_reducible refine Below.drew ?_) | (with_reducible refine bo_drewN _ ?_) | omega | (simp; done) | (simp; omega))⟩
end Go.Proofs.YtelcnojmfkoboaaDoor
