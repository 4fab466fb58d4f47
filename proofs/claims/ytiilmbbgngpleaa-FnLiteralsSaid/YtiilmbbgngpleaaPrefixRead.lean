/- Chapter 3's ReadPrefixed of the program: the parts added up, and held against Width. -/
import Derived.Test.YtiilmbbgngpleaaPrefixReadIter
import Derived.Test.YtiilmbbgngpleaaPrefixWidth
import Derived.Test.YtiilmbbgngpleaaLater
import Derived.Test.YtiilmbbgngpleaaRound
namespace Go.Proofs.Ytiilmbbgngpleaa
open Go.RowKit Go.Shelf
attribute [local go_sem] Oper.semAt_some
set_option linter.unusedSimpArgs false
set_option linter.unusedVariables false

theorem wrap_i64_64 (z : Int) : IntKind.i64.wrap z = wrap64 z := by rw [IntKind.wrap_i64]; unfold wrap64; omega
theorem box_far {W : World} {B : Nat} {t : TypeId} {v : Value} (h : Boxed W B t v) (b : Nat) (hne : b ≠ B) (v' : Value) : Boxed (W.setCell ⟨b, 0, none⟩ v') B t v := (Below.heap_setCell _ _ _ _ (by simpa using hne.symm)).trans h
theorem read_round {w0 W : World} {pre : List (Int × Bool)} {x : Int × Bool} {N : Nat} (c0 : Boxed W w0.heap.size 2 (.int .i64 (sumW pre))) (c1 : Boxed W (w0.heap.size + 1) 2 (.int .i64 (pre.length : Int))) (c2 : Boxed W (w0.heap.size + 1 + 1) 4 (.bool (lastB pre))) (hB : Below w0.heap.size w0 W) (hN : pre.length < N) (hN6 : N ≤ 6) :
    let V := (((W.setCell ⟨w0.heap.size, 0, none⟩ (.int .i64 (IntKind.i64.wrap (sumW pre + x.1)))).setCell ⟨w0.heap.size + 1, 0, none⟩ (.int .i64 (IntKind.i64.wrap ((pre.length : Int) + 1)))).setCell ⟨w0.heap.size + 1 + 1, 0, none⟩ (.bool x.2)).drew
    KeepsOthers W V ∧ Kept2 (w0.heap.size + 1 + 1 + 1) (w0.heap.size + 1 + 1 + 1 + 1) W V ∧ Boxed V w0.heap.size 2 (.int .i64 (sumW (pre ++ [x]))) ∧ Boxed V (w0.heap.size + 1) 2 (.int .i64 ((pre ++ [x]).length : Int)) ∧ Boxed V (w0.heap.size + 1 + 1) 4 (.bool (lastB (pre ++ [x]))) ∧ Below w0.heap.size w0 V := by
  intro V
  have e1 : IntKind.i64.wrap (sumW pre + x.1) = sumW (pre ++ [x]) := by rw [sumW_snoc, wrap_i64_64]
  have e2 : IntKind.i64.wrap ((pre.length : Int) + 1) = ((pre ++ [x]).length : Int) := by rw [wrap_i64_64]; unfold wrap64; simp; omega
  refine ⟨(((KeepsOthers.setCell _ _ _).trans (KeepsOthers.setCell _ _ _)).trans (KeepsOthers.setCell _ _ _)).trans (KeepsOthers.drew _), ⟨?_, ?_⟩, ?_, ?_, ?_, ?_⟩
  · exact ((Below.heap_setCell _ ⟨w0.heap.size + 1 + 1, 0, none⟩ _ _ (by simp)).trans (Below.heap_setCell _ ⟨w0.heap.size + 1, 0, none⟩ _ _ (by simp; omega))).trans (Below.heap_setCell _ ⟨w0.heap.size, 0, none⟩ _ _ (by simp; omega))
  · exact ((Below.heap_setCell _ ⟨w0.heap.size + 1 + 1, 0, none⟩ _ _ (by simp; omega)).trans (Below.heap_setCell _ ⟨w0.heap.size + 1, 0, none⟩ _ _ (by simp; omega))).trans (Below.heap_setCell _ ⟨w0.heap.size, 0, none⟩ _ _ (by simp; omega))
  · rw [← e1]
    exact box_far (box_far (c0.set _) (w0.heap.size + 1) (by omega) _) (w0.heap.size + 1 + 1) (by omega) _
  · rw [← e2]
    exact box_far ((box_far c1 w0.heap.size (by omega) _).set _) (w0.heap.size + 1 + 1) (by omega) _
  · rw [lastB_snoc]
    exact (box_far (box_far c2 w0.heap.size (by omega) _) (w0.heap.size + 1) (by omega) _).set _
  · exact ((((hB.setCell (p := ⟨w0.heap.size, 0, none⟩) (Nat.le_refl _) _).setCell (p := ⟨w0.heap.size + 1, 0, none⟩) (by simp) _).setCell (p := ⟨w0.heap.size + 1 + 1, 0, none⟩) (by simp; omega) _)).drew

set_option maxRecDepth 100000 in
set_option maxHeartbeats 4000000 in
theorem implRead (s : ByteArray) (b : Int) (w : World) (hs : s.size ≤ maxLen) : Calls Try.prog 29 #[.string s, .int .i64 b] w fun e w' => e = .returned (.tuple #[.int .i64 (rdV s b).1, .int .i64 (rdV s b).2]) ∧ Below w.heap.size w w' := by
  cases hb : inB b 1 8
  · rw [rdV_bits hb]
    go_enter Try.func29, Try.ntmps29
    go_wp2_with (go_at_call 43; refine (implPrefixBits _ _).mono ?_; rw [hb]; rintro e w' ⟨rfl, rfl⟩)
    go_ret2
    exact ⟨rfl, Below.refl _ _⟩
  obtain ⟨h1, h8⟩ := inB_true hb
  obtain ⟨hp1, hp2⟩ := pw_lo h1 h8
  have hlen := ptV_len s b
  have hmx : Try.prog.follows .mixedOrders = true := by kernel_rfl
  refine (callsIn_wide (n := 4)).1 ?_
  refine callsIn_of_wp_marks Try.func29 rfl trivial ?_ rfl
  simp only [Try.ntmps29, List.size_toArray, List.length_cons, List.length_nil, Nat.reduceAdd, Nat.reduceSub, Array.replicate_succ, Array.replicate_zero, List.push_toArray, List.append_toArray, List.nil_append, List.cons_append]
  gi_wp2_with (first | (refine ⟨trivial, ?_⟩; gi_at_call 43; refine (callsIn_wide.2 (implPrefixBits b _)).mono ?_; rw [hb]; rintro e w0 ⟨rfl, rfl⟩) | (refine ⟨trivial, ?_⟩; gi_at_call 44; refine (prefixParts_in _ s b _).mono ?_; rintro e w1 ⟨rfl, rfl⟩))
  have b0 := Boxed.new w0 2 (.int .i64 0)
  have b1 := Boxed.new (w0.alloc (.cells #[.int .i64 0] 2)) 2 (.int .i64 0)
  have b2 := Boxed.new ((w0.alloc (.cells #[.int .i64 0] 2)).alloc (.cells #[.int .i64 0] 2)) 4 (.bool false)
  have b3 := Boxed.new (((w0.alloc (.cells #[.int .i64 0] 2)).alloc (.cells #[.int .i64 0] 2)).alloc (.cells #[.bool false] 4)) 9 (.string s)
  have b4 := Boxed.new ((((w0.alloc (.cells #[.int .i64 0] 2)).alloc (.cells #[.int .i64 0] 2)).alloc (.cells #[.bool false] 4)).alloc (.cells #[.string s] 9)) 2 (.int .i64 b)
  simp only [World.size_alloc] at b1 b2 b3 b4
  have hB0 : Below w0.heap.size w0 (((((w0.alloc (.cells #[.int .i64 0] 2)).alloc (.cells #[.int .i64 0] 2)).alloc (.cells #[.bool false] 4)).alloc (.cells #[.string s] 9)).alloc (.cells #[.int .i64 b] 2)) := (((((Below.refl _ w0).alloc (Nat.le_refl _) _).alloc (by simp) _).alloc (by simp; omega) _).alloc (by simp; omega) _).alloc (by simp; omega) _
  refine wpIn_rangeFunc_ownF rfl (by omega) (gf := 50) (lb := #[.pointer (some ⟨w0.heap.size + 1 + 1 + 1, 0, none⟩), .pointer (some ⟨w0.heap.size + 1 + 1 + 1 + 1, 0, none⟩)]) rfl trivial (enters_of Try.func50 (by kernel_rfl) rfl)
    (parts_stops _ (by omega) (w0.heap.size + 1 + 1 + 1) (w0.heap.size + 1 + 1 + 1 + 1) s b hs h1 h8 _ (b3.alloc _) b4) kept2_t (kept2_b (by simp) (by simp)) (Below.refl _ _) (fun _ => rfl)
    (fun pre W => Boxed W w0.heap.size 2 (.int .i64 (sumW pre)) ∧ Boxed W (w0.heap.size + 1) 2 (.int .i64 (pre.length : Int)) ∧ Boxed W (w0.heap.size + 1 + 1) 4 (.bool (lastB pre)) ∧ Below w0.heap.size w0 W)
    (fun _ _ _ => False)
    (OwnFrom.and (Own.from (boxed_own _ _ _) _) (OwnFrom.and (Own.from (boxed_own _ _ _) _) (OwnFrom.and (Own.from (boxed_own _ _ _) _) (ownFrom_below (Nat.le_refl _) (by simp; omega)))))
    (fun _ _ _ _ _ hs _ _ => hs)
    ⟨(((b0.alloc _).alloc _).alloc _).alloc _, ((b1.alloc _).alloc _).alloc _, (b2.alloc _).alloc _, hB0⟩
    (fun x => { tmps := #[.string s, .int .i64 b, undef, undef, .int .i64 0, .int .i64 0, .pointer (some ⟨w0.heap.size, 0, none⟩), .pointer (some ⟨w0.heap.size + 1, 0, none⟩), .pointer (some ⟨w0.heap.size + 1 + 1, 0, none⟩), .int .i64 x.1, .bool x.2, .int .i64 b, .bool true, .bool false, .string s, .int .i64 b, .func (.func 50) #[] #[.pointer (some ⟨w0.heap.size + 1 + 1 + 1, 0, none⟩), .pointer (some ⟨w0.heap.size + 1 + 1 + 1 + 1, 0, none⟩)], .int .i64 x.1, .bool x.2, undef, undef, undef, undef, undef, undef, undef, undef, undef, undef, undef, undef, undef, undef, undef, undef, undef], defers := [] }) ?assign ?body ?done ?stop
  case assign =>
    intro l x W K hK
    gi_wp2
    exact hK
  case body =>
    rintro l pre x W ⟨c0, c1, c2, hB⟩ hpl
    have e0 := c0.cell
    have e1 := c1.cell
    have e2 := c2.cell
    have f0 := c0.frozen
    have f1 := c1.frozen
    have f2 := c2.frozen
    gi_wp2
    refine region_round rfl hmx (by kernel_rfl) ?_
    refine wpAnyIn_take (i := 1) (v := ?_) rfl rfl (by kernel_rfl) (by kernel_rfl) (by kernel_rfl) (fun _ _ _ h => h) ⟨Or.inl ⟨by rfl, ?_⟩, fun _ => rfl⟩ ?_; rotate_left; focus (intro w; go_simp; try with_reducible rfl)
    refine wpAnyIn_take (i := 5) (v := ?_) rfl rfl (by kernel_rfl) (by kernel_rfl) (by kernel_rfl) (fun _ _ _ h => h) ⟨Or.inl ⟨by rfl, ?_⟩, fun _ => rfl⟩ ?_; rotate_left; focus (intro w; go_simp; try with_reducible rfl)
    refine wpAnyIn_ready (rs := [0, 3]) (by kernel_rfl) (by simp) ?_
    refine AllReadyIn.cons rfl (fun K hK => ?_) (AllReadyIn.cons rfl (fun K hK => ?_) AllReadyIn.nil)
    · go_simp
      refine hK _ _ ?_; clear hK K
      refine wpAnyIn_take (i := 2) (v := ?_) rfl rfl (by kernel_rfl) (by kernel_rfl) (by kernel_rfl) (fun _ _ _ h => h) ⟨Or.inl ⟨by rfl, ?_⟩, fun _ => rfl⟩ ?_; rotate_left; focus (intro w; go_simp; try with_reducible rfl)
      refine wpAnyIn_ready (rs := [3, 6]) (by kernel_rfl) (by simp) ?_
      refine AllReadyIn.cons rfl (fun K hK => ?_) (AllReadyIn.cons rfl (fun K hK => ?_) AllReadyIn.nil)
      · go_simp
        refine hK _ _ ?_; clear hK K
        refine wpAnyIn_take (i := 4) (v := ?_) rfl rfl (by kernel_rfl) (by kernel_rfl) (by kernel_rfl) (fun _ _ _ h => h) ⟨Or.inl ⟨by rfl, ?_⟩, fun _ => rfl⟩ ?_; rotate_left; focus (intro w; go_simp; try with_reducible rfl)
        refine wpAnyIn_ready (rs := [6]) (by kernel_rfl) (by simp) ?_; refine AllReadyIn.cons rfl (fun K hK => ?_) AllReadyIn.nil; go_simp; refine hK _ _ ?_; clear hK K
        refine wpAnyIn_ready (rs := [7]) (by kernel_rfl) (by simp) ?_; refine AllReadyIn.cons rfl (fun K hK => ?_) AllReadyIn.nil; go_simp; refine hK _ _ ?_; clear hK K
        refine wpAnyIn_ready (rs := [8]) (by kernel_rfl) (by simp) ?_; refine AllReadyIn.cons rfl (fun K hK => ?_) AllReadyIn.nil; go_simp; refine hK _ _ ?_; clear hK K
        refine wpAnyIn_done (by kernel_rfl) ?_ _
        gi_wp2
        exact read_round c0 c1 c2 hB hpl hlen
      · go_simp
        refine hK _ _ ?_; clear hK K
        refine wpAnyIn_ready (rs := [3]) (by kernel_rfl) (by simp) ?_; refine AllReadyIn.cons rfl (fun K hK => ?_) AllReadyIn.nil; go_simp; refine hK _ _ ?_; clear hK K
        refine wpAnyIn_take (i := 4) (v := ?_) rfl rfl (by kernel_rfl) (by kernel_rfl) (by kernel_rfl) (fun _ _ _ h => h) ⟨Or.inl ⟨by rfl, ?_⟩, fun _ => rfl⟩ ?_; rotate_left; focus (intro w; go_simp; try with_reducible rfl)
        refine wpAnyIn_ready (rs := [7]) (by kernel_rfl) (by simp) ?_; refine AllReadyIn.cons rfl (fun K hK => ?_) AllReadyIn.nil; go_simp; refine hK _ _ ?_; clear hK K
        refine wpAnyIn_ready (rs := [8]) (by kernel_rfl) (by simp) ?_; refine AllReadyIn.cons rfl (fun K hK => ?_) AllReadyIn.nil; go_simp; refine hK _ _ ?_; clear hK K
        refine wpAnyIn_done (by kernel_rfl) ?_ _
        gi_wp2
        exact read_round c0 c1 c2 hB hpl hlen
    · go_simp
      refine hK _ _ ?_; clear hK K
      refine wpAnyIn_take (i := 4) (v := ?_) rfl rfl (by kernel_rfl) (by kernel_rfl) (by kernel_rfl) (fun _ _ _ h => h) ⟨Or.inl ⟨by rfl, ?_⟩, fun _ => rfl⟩ ?_; rotate_left; focus (intro w; go_simp; try with_reducible rfl)
      refine wpAnyIn_ready (rs := [0]) (by kernel_rfl) (by simp) ?_; refine AllReadyIn.cons rfl (fun K hK => ?_) AllReadyIn.nil; go_simp; refine hK _ _ ?_; clear hK K
      refine wpAnyIn_take (i := 2) (v := ?_) rfl rfl (by kernel_rfl) (by kernel_rfl) (by kernel_rfl) (fun _ _ _ h => h) ⟨Or.inl ⟨by rfl, ?_⟩, fun _ => rfl⟩ ?_; rotate_left; focus (intro w; go_simp; try with_reducible rfl)
      refine wpAnyIn_ready (rs := [6]) (by kernel_rfl) (by simp) ?_; refine AllReadyIn.cons rfl (fun K hK => ?_) AllReadyIn.nil; go_simp; refine hK _ _ ?_; clear hK K
      refine wpAnyIn_ready (rs := [7]) (by kernel_rfl) (by simp) ?_; refine AllReadyIn.cons rfl (fun K hK => ?_) AllReadyIn.nil; go_simp; refine hK _ _ ?_; clear hK K
      refine wpAnyIn_ready (rs := [8]) (by kernel_rfl) (by simp) ?_; refine AllReadyIn.cons rfl (fun K hK => ?_) AllReadyIn.nil; go_simp; refine hK _ _ ?_; clear hK K
      refine wpAnyIn_done (by kernel_rfl) ?_ _
      gi_wp2
      exact read_round c0 c1 c2 hB hpl hlen
  case done =>
    rintro D ys W hD hys ⟨c0, c1, c2, hB⟩ hK
    subst hys
    have e0 := c0.cell
    have e1 := c1.cell
    have e2 := c2.cell
    have l0 := c0.lt
    have l1 := c1.lt
    have l2 := c2.lt
    have HE : Hid (endR (sumW (ptV s b)) ((ptV s b).length : Int) (lastB (ptV s b)) b = rdV s b) := endR_ptV hb
    cases hl : lastB (ptV s b)
    · have HR : Hid (rdV s b = (-1, 0)) := by show _ = _; rw [← HE.out, hl]; simp [endR]
      rw [hl] at e2
      clear HE
      gi_wp2
      refine wpIn_wide.2 ?_
      go_quiet (fail)
      gi_wp2
      have hK2 : (W.drewN nq).heap[D]? = some (.deferred (some [])) := hK
      refine ⟨by simp, .inl ⟨_, _, rfl, run_takeDeferred (hK2), ?_⟩⟩
      exact ⟨.tuple #[.int .i64 (-1), .int .i64 0], by simp [results, Try.results29, go_sem], by rw [HR.out], (bo_drewN nq hB).trans (belowK_b (w := w0) (Nat.le_refl _) _ D _ _ (by simp at hD; omega) (hK2) rfl rfl)⟩
    · rw [hl] at e2
      by_cases hw : wdV (sumW (ptV s b)) b = ((ptV s b).length : Int)
      · have HR : Hid (rdV s b = (sumW (ptV s b), ((ptV s b).length : Int))) := by show _ = _; rw [← HE.out, hl]; simp [endR, hw]
        clear HE
        have hne : Nonempty (Later W) := ⟨⟨W, Below.refl _ _⟩⟩
        have q0 : ∀ x : Later W, x.w.cell? ⟨w0.heap.size, 0, none⟩ = some (.int .i64 (sumW (ptV s b))) := fun x => (x.b.cell (p := ⟨w0.heap.size, 0, none⟩) l0).trans e0
        have q1 : ∀ x : Later W, x.w.cell? ⟨w0.heap.size + 1, 0, none⟩ = some (.int .i64 ((ptV s b).length : Int)) := fun x => (x.b.cell (p := ⟨w0.heap.size + 1, 0, none⟩) l1).trans e1
        have q2 : ∀ x : Later W, x.w.cell? ⟨w0.heap.size + 1 + 1, 0, none⟩ = some (.bool true) := fun x => (x.b.cell (p := ⟨w0.heap.size + 1 + 1, 0, none⟩) l2).trans e2
        clear e0 e1 e2
        gi_wp2
        refine wpIn_wide.2 ?_
        refine region_later (by kernel_rfl) (by kernel_rfl) ?_
        go_big_quiet_step (fail)
        go_big_quiet_step (fail)
        go_big_quiet_step (fail)
        go_big_quiet_step (fail)
        go_big_quiet_step (fail)
        go_big_quiet_want; go_big_quiet_op
        refine ⟨.int .i64 (wdV (sumW (ptV s b)) b), fun y => later_calls (x := y) ?_, ?_⟩
        · exact implWidth _ _ _
        go_big_quiet_on
        repeat (go_big_quiet_step (fail))
        refine wpQuiet_nil ?_
        intro _ hw'
        obtain ⟨y, hw''⟩ := hw'
        subst hw''
        have hby := y.b
        have hKy : y.w.heap[D]? = some (.deferred (some [])) := (hby.block D (Array.getElem?_eq_some_iff.1 hK).1).trans hK
        have r0 := q0 y
        have r1 := q1 y
        have hBy : Below w0.heap.size w0 y.w := hB.trans (hby.mono hB.size)
        gi_wp2
        refine wpIn_wide.2 ?_
        go_quiet (fail)
        gi_wp2
        have hK2 : (y.w.drewN nq).heap[D]? = some (.deferred (some [])) := hKy
        refine ⟨by simp, .inl ⟨_, _, rfl, run_takeDeferred hK2, ?_⟩⟩
        exact ⟨.tuple #[.int .i64 (sumW (ptV s b)), .int .i64 ((ptV s b).length : Int)], by simp [results, Try.results29, go_sem], by rw [HR.out], (bo_drewN nq hBy).trans (belowK_b (w := w0) (Nat.le_refl _) _ D _ _ (by simp at hD; omega) hK2 rfl rfl)⟩
      · have HR : Hid (rdV s b = (-1, 0)) := by show _ = _; rw [← HE.out, hl]; simp [endR, hw]
        clear HE
        have hne : Nonempty (Later W) := ⟨⟨W, Below.refl _ _⟩⟩
        have q0 : ∀ x : Later W, x.w.cell? ⟨w0.heap.size, 0, none⟩ = some (.int .i64 (sumW (ptV s b))) := fun x => (x.b.cell (p := ⟨w0.heap.size, 0, none⟩) l0).trans e0
        have q1 : ∀ x : Later W, x.w.cell? ⟨w0.heap.size + 1, 0, none⟩ = some (.int .i64 ((ptV s b).length : Int)) := fun x => (x.b.cell (p := ⟨w0.heap.size + 1, 0, none⟩) l1).trans e1
        have q2 : ∀ x : Later W, x.w.cell? ⟨w0.heap.size + 1 + 1, 0, none⟩ = some (.bool true) := fun x => (x.b.cell (p := ⟨w0.heap.size + 1 + 1, 0, none⟩) l2).trans e2
        clear e0 e1 e2
        gi_wp2
        refine wpIn_wide.2 ?_
        refine region_later (by kernel_rfl) (by kernel_rfl) ?_
        go_big_quiet_step (fail)
        go_big_quiet_step (fail)
        go_big_quiet_step (fail)
        go_big_quiet_step (fail)
        go_big_quiet_step (fail)
        go_big_quiet_want; go_big_quiet_op
        refine ⟨.int .i64 (wdV (sumW (ptV s b)) b), fun y => later_calls (x := y) ?_, ?_⟩
        · exact implWidth _ _ _
        go_big_quiet_on
        repeat (go_big_quiet_step (fail))
        refine wpQuiet_nil ?_
        intro _ hw'
        obtain ⟨y, hw''⟩ := hw'
        subst hw''
        have hby := y.b
        have hKy : y.w.heap[D]? = some (.deferred (some [])) := (hby.block D (Array.getElem?_eq_some_iff.1 hK).1).trans hK
        have r0 := q0 y
        have r1 := q1 y
        have hBy : Below w0.heap.size w0 y.w := hB.trans (hby.mono hB.size)
        gi_wp2
        refine ⟨by simp, .inl ⟨_, _, rfl, run_takeDeferred (hKy), ?_⟩⟩
        exact ⟨.tuple #[.int .i64 (-1), .int .i64 0], by simp [results, Try.results29, go_sem], by rw [HR.out], (hBy).trans (belowK_b (w := w0) (Nat.le_refl _) _ D _ _ (by simp at hD; omega) (hKy) rfl rfl)⟩
  case stop =>
    rintro D c pre W _ _ h _
    exact h.elim
end Go.Proofs.Ytiilmbbgngpleaa
