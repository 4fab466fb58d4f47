/- Chapter 3's Width of the program: how many bytes the iterator gives. -/
import Derived.Test.YtiilmbbgngpleaaPrefixIter
namespace Go.Proofs.Ytiilmbbgngpleaa
open Go.RowKit Go.Shelf
attribute [local go_sem] Oper.semAt_some
set_option linter.unusedSimpArgs false
set_option linter.unusedVariables false

set_option maxRecDepth 100000 in
set_option maxHeartbeats 2000000 in
theorem implWidth (n b : Int) (w : World) : Calls Try.prog 16 #[.int .i64 n, .int .i64 b] w fun e w' => e = .returned (.int .i64 (wdV n b)) ∧ Below w.heap.size w w' := by
  cases hok : okN n b
  · have hv : wdV n b = 0 := by simp [wdV, hok]
    rw [hv]
    go_enter Try.func16, Try.ntmps16
    go_wp2_with (go_at_call 36; refine (implPrefixable _ _ _).mono ?_; rw [hok]; rintro e w' ⟨rfl, rfl⟩)
    go_ret
    exact ⟨rfl, Below.refl _ _⟩
  · have hv : wdV n b = ((bytesOf n (pw b - 1)).length : Int) := by simp [wdV, hok]
    rw [hv]
    obtain ⟨hn0, hn, h1, h8⟩ := okN_true hok
    have hlen := (bytesOf_len n (pw b - 1)).2
    refine (callsIn_wide (n := 4)).1 ?_
    refine callsIn_of_wp_marks Try.func16 rfl trivial ?_ rfl
    simp only [Try.ntmps16, List.size_toArray, List.length_cons, List.length_nil, Nat.reduceAdd, Nat.reduceSub, Array.replicate_succ, Array.replicate_zero, List.push_toArray, List.append_toArray, List.nil_append, List.cons_append]
    gi_wp2_with (first | (refine ⟨trivial, ?_⟩; gi_at_call 36; refine (callsIn_wide.2 (implPrefixable n b _)).mono ?_; rw [hok]; rintro e w0 ⟨rfl, rfl⟩) | (refine ⟨trivial, ?_⟩; gi_at_call 37; refine (prefixBytes_in _ n b _).mono ?_; rintro e w' ⟨rfl, rfl⟩))
    have bC := Boxed.new w0 2 (.int .i64 0)
    have bN := Boxed.new (w0.alloc (.cells #[.int .i64 0] 2)) 2 (.int .i64 n)
    have bB := Boxed.new ((w0.alloc (.cells #[.int .i64 0] 2)).alloc (.cells #[.int .i64 n] 2)) 2 (.int .i64 b)
    simp only [World.size_alloc] at bN bB
    have hB0 : Below w0.heap.size w0 (((w0.alloc (.cells #[.int .i64 0] 2)).alloc (.cells #[.int .i64 n] 2)).alloc (.cells #[.int .i64 b] 2)) := (((Below.refl _ w0).alloc (Nat.le_refl _) _).alloc (by simp) _).alloc (by simp; omega) _
    refine wpIn_rangeFunc_ownF rfl (by omega) (gf := 48) (lb := #[.pointer (some ⟨w0.heap.size + 1 + 1, 0, none⟩), .pointer (some ⟨w0.heap.size + 1, 0, none⟩)]) rfl trivial (enters_of Try.func48 (by kernel_rfl) rfl)
      (bytes_stops _ (by omega) (w0.heap.size + 1) (w0.heap.size + 1 + 1) n b hn0 hn h1 h8 _ (bN.alloc _) bB) kept2_t (kept2_b (by simp) (by simp)) (Below.refl _ _) (fun _ => rfl)
      (fun pre W => Boxed W w0.heap.size 2 (.int .i64 (pre.length : Int)) ∧ Below w0.heap.size w0 W)
      (fun _ _ _ => False)
      (OwnFrom.and (Own.from (boxed_own _ _ _) _) (ownFrom_below (Nat.le_refl _) (by simp; omega)))
      (fun _ _ _ _ _ hs _ _ => hs)
      ⟨(bC.alloc _).alloc _, hB0⟩
      (fun x => { tmps := #[.int .i64 n, .int .i64 b, undef, undef, .int .i64 0, .pointer (some ⟨w0.heap.size, 0, none⟩), .int .i64 n, .int .i64 b, .bool true, .bool false, .int .i64 n, .int .i64 b, .func (.func 48) #[] #[.pointer (some ⟨w0.heap.size + 1 + 1, 0, none⟩), .pointer (some ⟨w0.heap.size + 1, 0, none⟩)], .int .u8 x, undef, undef, undef], defers := [] }) ?assign ?body ?done ?stop
    case assign =>
      intro l x W K hK
      gi_wp2
      simpa using hK
    case body =>
      rintro l pre x W ⟨hc, hB⟩ hpl
      have hcc := hc.cell
      have hcf := hc.frozen
      gi_wp2
      exact ⟨KeepsOthers.setCell _ _ _, ⟨Below.heap_setCell _ _ _ _ (by simp), Below.heap_setCell _ _ _ _ (by simp; omega)⟩, by simpa using hc.set _, hB.setCell (p := ⟨w0.heap.size, 0, none⟩) (Nat.le_refl _) _⟩
    case done =>
      rintro D ys W hD rfl ⟨hc, hB⟩ hK
      have hcc := hc.cell
      gi_wp2
      refine ⟨by simp, .inl ⟨_, _, rfl, run_takeDeferred hK, ?_⟩⟩
      exact ⟨_, results_tmp rfl _ _ _, rfl, hB.trans (belowK_b (w := w0) (Nat.le_refl _) W D _ _ (by simp at hD; omega) hK rfl rfl)⟩
    case stop =>
      rintro D c pre W _ _ h _
      exact h.elim
end Go.Proofs.Ytiilmbbgngpleaa
