/- Chapter 3's Prefixed of the program: the bytes of the iterator, the high bits put into the first. -/
import Derived.Test.YtiilmbbgngpleaaPrefixMade
import Derived.Test.YtiilmbbgngpleaaText
namespace Go.Proofs.Ytiilmbbgngpleaa
open Go.RowKit Go.Shelf
attribute [local go_sem] Oper.semAt_some
set_option linter.unusedSimpArgs false
set_option linter.unusedVariables false

theorem bytesOf_cons {n b : Int} (hn0 : 0 ≤ n) (hn : n ≤ 268435456) (h1 : 1 ≤ b) (h8 : b ≤ 8) : ∃ x xs, bytesOf n (pw b - 1) = x :: xs ∧ 0 ≤ x ∧ x < pw b ∧ ∀ y ∈ xs, 0 ≤ y ∧ y ≤ 255 := by
  have hp := pw_lo h1 h8
  unfold bytesOf
  split
  · exact ⟨n, [], rfl, by omega, by omega, by simp⟩
  · exact ⟨_, _, rfl, by omega, by omega, restF_range 4 _ (by omega) (by simp; omega)⟩

set_option maxRecDepth 100000 in
set_option maxHeartbeats 2000000 in
theorem implPrefixed (n b h : Int) (w : World) : Calls Try.prog 23 #[.int .i64 n, .int .i64 b, .int .i64 h] w fun e w' => e = .returned (.string (preV n b h)) ∧ Below w.heap.size w w' := by
  cases hok : okN n b
  · have hv : preV n b h = ⟨#[]⟩ := by simp [preV, okP, hok]
    rw [hv]
    go_enter Try.func23, Try.ntmps23
    go_wp2_with (go_at_call 36; refine (implPrefixable n b _).mono ?_; rw [hok]; rintro e w0 ⟨rfl, rfl⟩)
    go_ret
    exact ⟨rfl, Below.refl _ _⟩
  · obtain ⟨hn0, hn, h1, h8⟩ := okN_true hok
    obtain ⟨hp1, hp2⟩ := pw_lo h1 h8
    cases hin : inB h 0 255
    · have hv : preV n b h = ⟨#[]⟩ := by simp [preV, okP, hin]
      rw [hv]
      go_enter Try.func23, Try.ntmps23
      go_wp2_with (first | (go_at_call 36; refine (implPrefixable n b _).mono ?_; rw [hok]; rintro e w0 ⟨rfl, rfl⟩) | (go_at_call 30; refine (implWithin _ _ _ _).mono ?_; rw [hin]; rintro e w0 ⟨rfl, rfl⟩))
      go_ret
      exact ⟨rfl, Below.refl _ _⟩
    · obtain ⟨hh0, hh1⟩ := inB_true hin
      have hand := and_pw hh0 hh1 h1 h8
      by_cases hm : h % pw b = 0
      · have hop : okP n b h = true := by simp [okP, hok, hin, hm]
        have hv : preV n b h = strOf (addHead h (bytesOf n (pw b - 1))) := by simp [preV, hop]
        rw [hv]
        have hfit := (okP_true hop).2.2.2
        have hlen := (bytesOf_len n (pw b - 1)).2
        obtain ⟨i0, hi, hz0, hz1, hz2⟩ := info_parts (P := Try.prog) (e := 5) (z := .int .u8 0) (size := 1) (bytes := 1) (by kernel_rfl)
        refine (callsIn_wide (n := 4)).1 ?_
        refine callsIn_of_wp_marks Try.func23 rfl trivial ?_ rfl
        simp only [Try.ntmps23, List.size_toArray, List.length_cons, List.length_nil, Nat.reduceAdd, Nat.reduceSub, Array.replicate_succ, Array.replicate_zero, List.push_toArray, List.append_toArray, List.nil_append, List.cons_append]
        gi_wp2_with (first | (refine ⟨trivial, ?_⟩; gi_at_call 36; refine (callsIn_wide.2 (implPrefixable n b _)).mono ?_; rw [hok]; rintro e w0 ⟨rfl, rfl⟩) | (refine ⟨trivial, ?_⟩; gi_at_call 30; refine (callsIn_wide.2 (implWithin _ _ _ _)).mono ?_; rw [hin]; rintro e w0 ⟨rfl, rfl⟩) | (refine ⟨trivial, ?_⟩; gi_at_call 39; refine (callsIn_wide.2 (implLowest _ _ h1 h8)).mono ?_; rintro e w0 ⟨rfl, rfl⟩) | (refine ⟨trivial, ?_⟩; gi_at_call 37; refine (prefixBytes_in _ n b _).mono ?_; rintro e w1 ⟨rfl, rfl⟩))
        have bM := Boxed.new w0 22 (.slice none 0 0)
        have bN := Boxed.new (w0.alloc (.cells #[.slice none 0 0] 22)) 2 (.int .i64 n)
        have bB := Boxed.new ((w0.alloc (.cells #[.slice none 0 0] 22)).alloc (.cells #[.int .i64 n] 2)) 2 (.int .i64 b)
        simp only [World.size_alloc] at bN bB
        have hB0 : Below w0.heap.size w0 (((w0.alloc (.cells #[.slice none 0 0] 22)).alloc (.cells #[.int .i64 n] 2)).alloc (.cells #[.int .i64 b] 2)) := (((Below.refl _ w0).alloc (Nat.le_refl _) _).alloc (by simp) _).alloc (by simp; omega) _
        refine wpIn_rangeFunc_ownG rfl (by omega) (gf := 48) (lb := #[.pointer (some ⟨w0.heap.size + 1 + 1, 0, none⟩), .pointer (some ⟨w0.heap.size + 1, 0, none⟩)]) rfl trivial (enters_of Try.func48 (by kernel_rfl) rfl)
          (bytes_stops _ (by omega) (w0.heap.size + 1) (w0.heap.size + 1 + 1) n b hn0 hn h1 h8 _ (bN.alloc _) bB) kept2_t (kept2_b (by simp) (by simp)) (Below.refl _ _) (fun _ => rfl)
          (fun pre W => (∃ v, Boxed W w0.heap.size 22 v ∧ W.ownsRow w0.heap.size 5 1 v pre.length (pre.map (Value.int .u8)) ∧ True) ∧ Boxed W (w0.heap.size + 1) 2 (.int .i64 n) ∧ Boxed W (w0.heap.size + 1 + 1) 2 (.int .i64 b) ∧ Below w0.heap.size w0 W)
          (fun _ _ _ => False)
          (OwnFrom.and (Own.from (holdsRow_own w0.heap.size w0.heap.size 22 5 1 (fun pre : List Int => pre.length) (fun pre => pre.map (Value.int .u8)) (fun _ _ => True)) _) (OwnFrom.and (Own.from (boxed_own _ _ (fun _ => _)) _) (OwnFrom.and (Own.from (boxed_own _ _ (fun _ => _)) _) (ownFrom_below (Nat.le_refl _) (by simp; omega)))))
          (fun _ _ _ _ _ hs _ _ => hs)
          ⟨⟨_, (bM.alloc _).alloc _, World.ownsRow_nil _ _ _ _, trivial⟩, bN.alloc _, bB, hB0⟩
          (fun x => { tmps := #[.int .i64 n, .int .i64 b, .int .i64 h, undef, undef, undef, .string ⟨#[]⟩, .pointer (some ⟨w0.heap.size, 0, none⟩), .int .u8 x, .int .i64 n, .int .i64 b, .bool true, .bool false, .bool false, .int .i64 h, .bool true, .bool false, .bool false, .bool false, .int .i64 h, .int .i64 b, .int .i64 (pw b - 1), .int .i64 0, .bool false, .bool false, .int .i64 n, .int .i64 b, .func (.func 48) #[] #[.pointer (some ⟨w0.heap.size + 1 + 1, 0, none⟩), .pointer (some ⟨w0.heap.size + 1, 0, none⟩)], .int .u8 x, undef, undef, undef, undef, undef, undef, undef, undef, undef, undef, undef, undef, undef], defers := [] }) ?assign ?body ?done ?stop
        case assign =>
          intro l x W K hK
          gi_wp2
          exact hK
        case body =>
          rintro l pre x W ⟨⟨v, hv, hrow, _⟩, hN, hBb, hB⟩ hpl
          have hc := hv.cell
          have hsz := hB.size
          gi_wp2_with (gi_at_builtin; refine wpListIn_append_own _ rfl _ _ 22 rfl w0.heap.size 5 i0 (.int .u8 0) 1 1 Try.underlying22 hi hz0 hz1 hz2 rfl (by decide) _ _ _ rfl (hrow.alloc _) ⟨W.heap.size, 0, none⟩ 1 1 [.int .u8 x] rfl rfl (cell_one_new _ _ _) (by simp [Value.oneCell']) (by unfold maxLen; omega) (by omega) (by simp; omega) ?_; intro v' w1 hown' hgrow _; obtain ⟨g', cap', rfl⟩ := ownsRow_succ hown'; obtain ⟨hv1, hv2, hr2, hk2, hb2⟩ := hv.appended (by decide) hrow hB.size (Nat.le_refl _) hown' hgrow; have hc1 := hv1.cell; have hf1 := hv1.frozen)
          have hN1 : Boxed w1 (w0.heap.size + 1) 2 (.int .i64 n) := (hN.alloc _).kept hgrow (hN.not_row (by decide) hrow)
          have hB1 : Boxed w1 (w0.heap.size + 1 + 1) 2 (.int .i64 b) := (hBb.alloc _).kept hgrow (hBb.not_row (by decide) hrow)
          have hN2 := hN1.kept (grownBy_setCell' w1 w0.heap.size (.slice (some ⟨g', 0, none⟩) (pre.length + 1) cap')) (by simp)
          have hB2 := hB1.kept (grownBy_setCell' w1 w0.heap.size (.slice (some ⟨g', 0, none⟩) (pre.length + 1) cap')) (by simp; omega)
          exact ⟨hk2.from _, ⟨(show _ = _ from hN2).trans hN.symm, (show _ = _ from hB2).trans hBb.symm⟩, ⟨_, hv2, by simpa using hr2, trivial⟩, hN2, hB2, hB.trans hb2⟩
        case done =>
          rintro D ys W hD hys ⟨⟨v, hv, hrow, _⟩, hN, hBb, hB⟩ hK
          obtain ⟨x, xs, hbo, hx0, hx1, hxs⟩ := bytesOf_cons hn0 hn h1 h8
          have HBO : Hid (bytesOf n (pw b - 1) = x :: xs) := hbo
          rw [hbo] at hys hlen
          subst hys
          rw [List.length_cons] at hrow hlen
          obtain ⟨g, cap, rfl⟩ := ownsRow_succ hrow
          obtain ⟨-, hfu, hgb, hcap, hlt⟩ := ownsRow_at (t := 0) hrow (by omega)
          have hcx : W.cell? ⟨g, 0, none⟩ = some (.int .u8 x) := by
            obtain ⟨q1, q2⟩ := hrow
            rcases q2 with ⟨q2, _⟩ | ⟨b', cap', cur, e1, e2, e3, e4, e5, e6, e7⟩
            · cases q2
            · simp only [Value.slice.injEq, Option.some.injEq, Addr.mk.injEq, and_true, true_and] at e1
              obtain ⟨rfl, rfl⟩ := e1
              have h6 : W.cell? ⟨g, 0, none⟩ = cur[0]? := by simp [World.cell?, e3]
              have h8 : (cur.toList.take ((xs.length + 1) * 1))[0]? = ((x :: xs).map (Value.int .u8))[0]? := by rw [e7]
              rw [List.getElem?_take_of_lt (by omega)] at h8
              rw [h6, ← Array.getElem?_toList, h8]; rfl
          have hor := or_pw hx0 hx1 hh0 hh1 hm h1 h8
          have hc := hv.cell
          have hne : g ≠ w0.heap.size := by
            rintro rfl
            exact hv.not_row (by decide) hrow rfl
          have hrow2 := ownsRow_set (t := 0) hrow (.int .u8 (h + x))
          have hcv := row_string (l := (h + x) :: xs) (by simpa using hrow2) (by intro y hy; rcases List.mem_cons.1 hy with rfl | hy; omega; exact hxs y hy)
          have hK2 := (KeepsOthers.setCell W ⟨g, 0, none⟩ (.int .u8 (h + x))).same D _ hK rfl
          have hB2 := hB.setCell (p := ⟨g, 0, none⟩) hgb (.int .u8 (h + x))
          clear hrow hrow2 hbo
          gi_wp2
          refine ⟨by simp, .inl ⟨_, _, rfl, run_takeDeferred hK2, ?_⟩⟩
          exact ⟨_, results_tmp rfl _ _ _, by rw [HBO.out]; rfl, hB2.trans (belowK_b (w := w0) (Nat.le_refl _) _ D _ _ (by simp at hD; omega) hK2 rfl rfl)⟩
        case stop =>
          rintro D c pre W _ _ h _
          exact h.elim
      · have hv : preV n b h = ⟨#[]⟩ := by simp [preV, okP, hm]
        rw [hv]
        go_enter Try.func23, Try.ntmps23
        go_wp2_with (first | (go_at_call 36; refine (implPrefixable n b _).mono ?_; rw [hok]; rintro e w0 ⟨rfl, rfl⟩) | (go_at_call 30; refine (implWithin _ _ _ _).mono ?_; rw [hin]; rintro e w0 ⟨rfl, rfl⟩) | (go_at_call 39; refine (implLowest _ _ h1 h8).mono ?_; rintro e w0 ⟨rfl, rfl⟩))
        go_ret
        exact ⟨rfl, Below.refl _ _⟩
end Go.Proofs.Ytiilmbbgngpleaa
