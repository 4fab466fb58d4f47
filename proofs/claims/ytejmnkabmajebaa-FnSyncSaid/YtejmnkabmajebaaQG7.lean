/- Several small texts of one level, one behind the other. -/
import Derived.Test.YtejmnkabmajebaaQG6
import Derived.Test.YtejmnkabmajebaaQG3
import Derived.Test.YtejmnkabmajebaaQG5
import Derived.Test.YtejmnkabmajebaaQG4
import Derived.Handy
import Derived.Test.YtejmnkabmajebaaQG2
import Derived.Deep.RegionHeld3
/- Chapter 3's Prefixed of the program: the bytes of the iterator, the high bits put into the first. -/
namespace Go.Proofs.Ytejmnkabmajebaa
open Go.RowKit Go.Shelf
attribute [local go_sem] Oper.semAt_some
set_option linter.unusedSimpArgs false
set_option linter.unusedVariables false

theorem bytesOf_cons {n b : Int} (hn0 : 0 ≤ n) (hn : n ≤ 268435456) (h1 : 1 ≤ b) (h8 : b ≤ 8) : ∃ x xs, bytesOf n (pw b - 1) = x :: xs ∧ 0 ≤ x ∧ x < pw b ∧ ∀ y ∈ xs, 0 ≤ y ∧ y ≤ 255 := by
  have hp := pw_lo h1 h8
  unfold bytesOf
  split
  · exact ⟨n, [], rfl, by omega, by omega, by simp⟩
  · exact ⟨_, _, rfl, by omega, by omega, restF_range 4 _ (by omega) (by simp; omega)⟩

set_option maxRecDepth 100000 in
set_option maxHeartbeats 2000000 in
theorem implPrefixed (n b h : Int) (w : World) : Calls Try.prog 90 #[.int .i64 n, .int .i64 b, .int .i64 h] w fun e w' => e = .returned (.string (preV n b h)) ∧ Below w.heap.size w w' := by
  cases hok : okN n b
  · have hv : preV n b h = ⟨#[]⟩ := by simp [preV, okP, hok]
    rw [hv]
    go_enter Try.func90, Try.ntmps90
    go_wp2_with (go_at_call 106; refine (implPrefixable n b _).mono ?_; rw [hok]; rintro e w0 ⟨rfl, rfl⟩)
    go_ret
    exact ⟨rfl, Below.refl _ _⟩
  · obtain ⟨hn0, hn, h1, h8⟩ := okN_true hok
    obtain ⟨hp1, hp2⟩ := pw_lo h1 h8
    cases hin : inB h 0 255
    · have hv : preV n b h = ⟨#[]⟩ := by simp [preV, okP, hin]
      rw [hv]
      go_enter Try.func90, Try.ntmps90
      go_wp2_with (first | (go_at_call 106; refine (implPrefixable n b _).mono ?_; rw [hok]; rintro e w0 ⟨rfl, rfl⟩) | (go_at_call 93; refine (implWithin _ _ _ _).mono ?_; rw [hin]; rintro e w0 ⟨rfl, rfl⟩))
      go_ret
      exact ⟨rfl, Below.refl _ _⟩
    · obtain ⟨hh0, hh1⟩ := inB_true hin
      have hand := and_pw hh0 hh1 h1 h8
      by_cases hm : h % pw b = 0
      · have hop : okP n b h = true := by simp [okP, hok, hin, hm]
        have hv : preV n b h = strOf (addHead h (bytesOf n (pw b - 1))) := by simp [preV, hop]
        rw [hv]
        have hfit := (okP_true hop).2.2.2
        have hlen := (bytesOf_len n (pw b - 1)).2
        obtain ⟨i0, hi, hz0, hz1, hz2⟩ := info_parts (P := Try.prog) (e := 5) (z := .int .u8 0) (size := 1) (bytes := 1) (by kernel_rfl)
        refine (callsIn_wide (n := 4)).1 ?_
        refine callsIn_of_wp_marks Try.func90 rfl trivial ?_ rfl
        simp only [Try.ntmps90, List.size_toArray, List.length_cons, List.length_nil, Nat.reduceAdd, Nat.reduceSub, Array.replicate_succ, Array.replicate_zero, List.push_toArray, List.append_toArray, List.nil_append, List.cons_append]
        gi_wp2_with (first | (refine ⟨trivial, ?_⟩; gi_at_call 106; refine (callsIn_wide.2 (implPrefixable n b _)).mono ?_; rw [hok]; rintro e w0 ⟨rfl, rfl⟩) | (refine ⟨trivial, ?_⟩; gi_at_call 93; refine (callsIn_wide.2 (implWithin _ _ _ _)).mono ?_; rw [hin]; rintro e w0 ⟨rfl, rfl⟩) | (refine ⟨trivial, ?_⟩; gi_at_call 96; refine (callsIn_wide.2 (implLowest _ _ h1 h8)).mono ?_; rintro e w0 ⟨rfl, rfl⟩) | (refine ⟨trivial, ?_⟩; gi_at_call 107; refine (prefixBytes_in _ n b _).mono ?_; rintro e w1 ⟨rfl, rfl⟩))
        have bM := Boxed.new w0 22 (.slice none 0 0)
        have bN := Boxed.new (w0.alloc (.cells #[.slice none 0 0] 22)) 2 (.int .i64 n)
        have bB := Boxed.new ((w0.alloc (.cells #[.slice none 0 0] 22)).alloc (.cells #[.int .i64 n] 2)) 2 (.int .i64 b)
        simp only [World.size_alloc] at bN bB
        have hB0 : Below w0.heap.size w0 (((w0.alloc (.cells #[.slice none 0 0] 22)).alloc (.cells #[.int .i64 n] 2)).alloc (.cells #[.int .i64 b] 2)) := (((Below.refl _ w0).alloc (Nat.le_refl _) _).alloc (by simp) _).alloc (by simp; omega) _
        refine wpIn_rangeFunc_ownG rfl (by omega) (gf := 113) (lb := #[.pointer (some ⟨w0.heap.size + 1 + 1, 0, none⟩), .pointer (some ⟨w0.heap.size + 1, 0, none⟩)]) rfl trivial (enters_of Try.func113 (by kernel_rfl) rfl)
          (bytes_stops _ (by omega) (w0.heap.size + 1) (w0.heap.size + 1 + 1) n b hn0 hn h1 h8 _ (bN.alloc _) bB) kept2_t (kept2_b (by simp) (by simp)) (Below.refl _ _) (fun _ => rfl)
          (fun pre W => (∃ v, Boxed W w0.heap.size 22 v ∧ W.ownsRow w0.heap.size 5 1 v pre.length (pre.map (Value.int .u8)) ∧ True) ∧ Boxed W (w0.heap.size + 1) 2 (.int .i64 n) ∧ Boxed W (w0.heap.size + 1 + 1) 2 (.int .i64 b) ∧ Below w0.heap.size w0 W)
          (fun _ _ _ => False)
          (OwnFrom.and (Own.from (holdsRow_own w0.heap.size w0.heap.size 22 5 1 (fun pre : List Int => pre.length) (fun pre => pre.map (Value.int .u8)) (fun _ _ => True)) _) (OwnFrom.and (Own.from (boxed_own _ _ (fun _ => _)) _) (OwnFrom.and (Own.from (boxed_own _ _ (fun _ => _)) _) (ownFrom_below (Nat.le_refl _) (by simp; omega)))))
          (fun _ _ _ _ _ hs _ _ => hs)
          ⟨⟨_, (bM.alloc _).alloc _, World.ownsRow_nil _ _ _ _, trivial⟩, bN.alloc _, bB, hB0⟩
          (fun x => { tmps := #[.int .i64 n, .int .i64 b, .int .i64 h, undef, undef, undef, .string ⟨#[]⟩, .pointer (some ⟨w0.heap.size, 0, none⟩), .int .u8 x, .int .i64 n, .int .i64 b, .bool true, .bool false, .bool false, .int .i64 h, .bool true, .bool false, .bool false, .bool false, .int .i64 h, .int .i64 b, .int .i64 (pw b - 1), .int .i64 0, .bool false, .bool false, .int .i64 n, .int .i64 b, .func (.func 113) #[] #[.pointer (some ⟨w0.heap.size + 1 + 1, 0, none⟩), .pointer (some ⟨w0.heap.size + 1, 0, none⟩)], .int .u8 x, undef, undef, undef, undef, undef, undef, undef, undef, undef, undef, undef, undef, undef], defers := [] }) ?assign ?body ?done ?stop
        case assign =>
          intro l x W K hK
          gi_wp2
          exact hK
        case body =>
          rintro l pre x W ⟨⟨v, hv, hrow, _⟩, hN, hBb, hB⟩ hpl
          have hc := hv.cell
          have hsz := hB.size
          gi_wp2_with (gi_at_builtin; refine wpListIn_append_own _ rfl _ _ 22 rfl w0.heap.size 5 i0 (.int .u8 0) 1 1 Try.underlying22 hi hz0 hz1 hz2 rfl (by decide) _ _ _ rfl (hrow.alloc _) ⟨W.heap.size, 0, none⟩ 1 1 [.int .u8 x] rfl rfl (cell_one_new _ _ _) (by simp [Value.oneCell']) (by unfold maxLen; omega) (by omega) (by simp; omega) ?_; intro v' w1 hown' hgrow _; obtain ⟨g', cap', rfl⟩ := ownsRow_succ hown'; obtain ⟨hv1, hv2, hr2, hk2, hb2⟩ := hv.appended (by decide) hrow hB.size (Nat.le_refl _) hown' hgrow; have hc1 := hv1.cell; have hf1 := hv1.frozen)
          have hN1 : Boxed w1 (w0.heap.size + 1) 2 (.int .i64 n) := (hN.alloc _).kept hgrow (hN.not_row (by decide) hrow)
          have hB1 : Boxed w1 (w0.heap.size + 1 + 1) 2 (.int .i64 b) := (hBb.alloc _).kept hgrow (hBb.not_row (by decide) hrow)
          have hN2 := hN1.kept (grownBy_setCell' w1 w0.heap.size (.slice (some ⟨g', 0, none⟩) (pre.length + 1) cap')) (by simp)
          have hB2 := hB1.kept (grownBy_setCell' w1 w0.heap.size (.slice (some ⟨g', 0, none⟩) (pre.length + 1) cap')) (by simp; omega)
          exact ⟨hk2.from _, ⟨(show _ = _ from hN2).trans hN.symm, (show _ = _ from hB2).trans hBb.symm⟩, ⟨_, hv2, by simpa using hr2, trivial⟩, hN2, hB2, hB.trans hb2⟩
        case done =>
          rintro D ys W hD hys ⟨⟨v, hv, hrow, _⟩, hN, hBb, hB⟩ hK
          obtain ⟨x, xs, hbo, hx0, hx1, hxs⟩ := bytesOf_cons hn0 hn h1 h8
          have HBO : Hid (bytesOf n (pw b - 1) = x :: xs) := hbo
          rw [hbo] at hys hlen
          subst hys
          rw [List.length_cons] at hrow hlen
          obtain ⟨g, cap, rfl⟩ := ownsRow_succ hrow
          obtain ⟨-, hfu, hgb, hcap, hlt⟩ := ownsRow_at (t := 0) hrow (by omega)
          have hcx : W.cell? ⟨g, 0, none⟩ = some (.int .u8 x) := by
            obtain ⟨q1, q2⟩ := hrow
            rcases q2 with ⟨q2, _⟩ | ⟨b', cap', cur, e1, e2, e3, e4, e5, e6, e7⟩
            · cases q2
            · simp only [Value.slice.injEq, Option.some.injEq, Addr.mk.injEq, and_true, true_and] at e1
              obtain ⟨rfl, rfl⟩ := e1
              have h6 : W.cell? ⟨g, 0, none⟩ = cur[0]? := by simp [World.cell?, e3]
              have h8 : (cur.toList.take ((xs.length + 1) * 1))[0]? = ((x :: xs).map (Value.int .u8))[0]? := by rw [e7]
              rw [List.getElem?_take_of_lt (by omega)] at h8
              rw [h6, ← Array.getElem?_toList, h8]; rfl
          have hor := or_pw hx0 hx1 hh0 hh1 hm h1 h8
          have hc := hv.cell
          have hne : g ≠ w0.heap.size := by
            rintro rfl
            exact hv.not_row (by decide) hrow rfl
          have hrow2 := ownsRow_set (t := 0) hrow (.int .u8 (h + x))
          have hcv := row_string (l := (h + x) :: xs) (by simpa using hrow2) (by intro y hy; rcases List.mem_cons.1 hy with rfl | hy; omega; exact hxs y hy)
          have hK2 := (KeepsOthers.setCell W ⟨g, 0, none⟩ (.int .u8 (h + x))).same D _ hK rfl
          have hB2 := hB.setCell (p := ⟨g, 0, none⟩) hgb (.int .u8 (h + x))
          clear hrow hrow2 hbo
          gi_wp2
          refine ⟨by simp, .inl ⟨_, _, rfl, run_takeDeferred hK2, ?_⟩⟩
          exact ⟨_, results_tmp rfl _ _ _, by rw [HBO.out]; rfl, hB2.trans (belowK_b (w := w0) (Nat.le_refl _) _ D _ _ (by simp at hD; omega) hK2 rfl rfl)⟩
        case stop =>
          rintro D c pre W _ _ h _
          exact h.elim
      · have hv : preV n b h = ⟨#[]⟩ := by simp [preV, okP, hm]
        rw [hv]
        go_enter Try.func90, Try.ntmps90
        go_wp2_with (first | (go_at_call 106; refine (implPrefixable n b _).mono ?_; rw [hok]; rintro e w0 ⟨rfl, rfl⟩) | (go_at_call 93; refine (implWithin _ _ _ _).mono ?_; rw [hin]; rintro e w0 ⟨rfl, rfl⟩) | (go_at_call 96; refine (implLowest _ _ h1 h8).mono ?_; rintro e w0 ⟨rfl, rfl⟩))
        go_ret
        exact ⟨rfl, Below.refl _ _⟩
end Go.Proofs.Ytejmnkabmajebaa
/- Chapter 3's iterator over what each byte adds: whoever ranges over it gets just these parts, in their order. -/
namespace Go.Proofs.Ytejmnkabmajebaa
open Go.RowKit Go.Shelf
attribute [local go_sem] Oper.semAt_some
set_option linter.unusedSimpArgs false
set_option linter.unusedVariables false

abbrev encP (x : Int × Bool) : Array Value := #[.int .i64 x.1, .bool x.2]

set_option maxRecDepth 100000 in
set_option maxHeartbeats 4000000 in
theorem parts1_in (m : Nat) (hm : 1 ≤ m) (l Bs Bb : Nat) (s : ByteArray) (b : Int) (hs : s.size ≤ maxLen) (h1 : 1 ≤ b) (h8 : b ≤ 8) (J Jx : List (Int × Bool) → World → Prop)
    (hY : ∀ pre x W, J pre W → pre.length < (ptV s b).length → YieldAt Fence.wide (m - 1) Try.prog l (encP x) W fun e W' =>
      (e = .returned (.bool true) ∧ J (pre ++ [x]) W' ∧ Kept2 Bs Bb W W') ∨ (e = .returned (.bool false) ∧ Jx (pre ++ [x]) W'))
    (W : World) (hBs : Boxed W Bs 9 (.string s)) (hBb : Boxed W Bb 2 (.int .i64 b)) (h0 : J [] W) :
    CallsIn Fence.wide m Try.prog 109 #[.func (.yield l) #[] #[], .pointer (some ⟨Bs, 0, none⟩), .pointer (some ⟨Bb, 0, none⟩)] W fun e W' => (∃ v, e = .returned v) ∧
      ((∃ ys, ys = ptV s b ∧ J ys W') ∨ (∃ pre, True ∧ Jx pre W')) := by
  unfold maxLen at hs
  obtain ⟨hp1, hp2⟩ := pw_lo h1 h8
  have cs := hBs.cell
  have cb := hBb.cell
  by_cases hz : s.size = 0
  · have hv := ptV_empty (b := b) hz
    obtain rfl := size0 hz
    refine callsIn_of_wp Try.func109 rfl trivial ?_ rfl
    simp only [Try.ntmps109, List.size_toArray, List.length_cons, List.length_nil, Nat.reduceAdd, Nat.reduceSub, Array.replicate_succ, Array.replicate_zero, List.push_toArray, List.append_toArray, List.nil_append, List.cons_append]
    gi_wp2
    refine bodyPost_ret (results_none rfl _ _ _) rfl ?_
    exact ⟨⟨_, rfl⟩, .inl ⟨[], hv.symm, h0⟩⟩
  have hp : 0 < s.size := by omega
  have hne := list_ne hp
  have hne' := list_isEmpty hp
  have hx : (s[0].toNat : Int) ≤ 255 := by have := s[0].toNat_lt; omega
  have hx0 : 0 ≤ (s[0].toNat : Int) := by omega
  have hand := and_pw hx0 hx h1 h8
  have hm' := Int.emod_lt_of_pos (s[0].toNat : Int) (show (0 : Int) < pw b by omega)
  have hm0 := Int.emod_nonneg (s[0].toNat : Int) (show pw b ≠ 0 by omega)
  by_cases hsm : (s[0].toNat : Int) % pw b < pw b - 1
  · have HV : Hid (ptV s b = [((s[0].toNat : Int) % pw b, true)]) := ptV_small hp hsm
    obtain ⟨fn, tmps, assign, body, hy, hR⟩ := hY [] ((s[0].toNat : Int) % pw b, true) W h0 (by rw [HV.out]; simp)
    dsimp only [encP] at hy
    refine callsIn_of_wp Try.func109 rfl trivial ?_ rfl
    simp only [Try.ntmps109, List.size_toArray, List.length_cons, List.length_nil, Nat.reduceAdd, Nat.reduceSub, Array.replicate_succ, Array.replicate_zero, List.push_toArray, List.append_toArray, List.nil_append, List.cons_append]
    gi_wp2_with (refine ⟨trivial, ?_⟩; gi_at_call 96; refine (callsIn_wide.2 (implLowest b _ h1 h8)).mono ?_; rintro e w' ⟨rfl, rfl⟩)
    refine hR.mono ?_
    rintro e W3 (⟨rfl, hJ3, hk3⟩ | ⟨rfl, hJx3⟩)
    · gi_wp2
      refine bodyPost_ret (results_none rfl _ _ _) rfl ?_
      exact ⟨⟨_, rfl⟩, .inl ⟨_, HV.out.symm, hJ3⟩⟩
    · gi_wp2
      refine bodyPost_ret (results_none rfl _ _ _) rfl ?_
      exact ⟨⟨_, rfl⟩, .inr ⟨_, trivial, hJx3⟩⟩
  · have hd : decide ((s[0].toNat : Int) % pw b < pw b - 1) = false := decide_eq_false hsm
    have HV : Hid (ptV s b = [((s[0].toNat : Int) % pw b, false)] ++ ptF 5 1 ((bys s).drop 1)) := ptV_more hp hsm
    obtain ⟨fn, tmps, assign, body, hy, hR⟩ := hY [] ((s[0].toNat : Int) % pw b, false) W h0 (by rw [HV.out]; simp)
    dsimp only [encP] at hy
    refine callsIn_of_wp Try.func109 rfl trivial ?_ rfl
    simp only [Try.ntmps109, List.size_toArray, List.length_cons, List.length_nil, Nat.reduceAdd, Nat.reduceSub, Array.replicate_succ, Array.replicate_zero, List.push_toArray, List.append_toArray, List.nil_append, List.cons_append]
    gi_wp2_with (refine ⟨trivial, ?_⟩; gi_at_call 96; refine (callsIn_wide.2 (implLowest b _ h1 h8)).mono ?_; rintro e w' ⟨rfl, rfl⟩)
    refine hR.mono ?_
    rintro e W3 (⟨rfl, hJ3, hk3⟩ | ⟨rfl, hJx3⟩)
    · have bs3 := hk3.boxed1 hBs
      gi_wp2
      gi_loopw [6, 7] (fun u t wr => ∃ (i : Nat) (p : Int) (pre : List (Int × Bool)), 1 ≤ i ∧ i ≤ 6 ∧ i ≤ s.size ∧ t = .int .i64 i ∧ u = .int .i64 p ∧ Plc i p ∧ Hid (ptV s b = pre ++ ptF (6 - i) p ((bys s).drop i)) ∧ Boxed wr Bs 9 (.string s) ∧ J pre wr) (fun _ t _ => 6 - (intOf t).toNat)
      case atStart => exact ⟨1, 1, _, by omega, by omega, by omega, rfl, rfl, .inl ⟨rfl, rfl⟩, HV, bs3, hJ3⟩
      case round =>
        obtain ⟨i, p, pre, hi1, hi6, his, rfl, rfl, hplc, HP, bs, hJs⟩ := hrel
        have cs4 := bs.cell
        obtain ⟨-, -, hpl1, hpl2, hpl3⟩ := hplc.lo
        by_cases hlt : i < s.size
        · by_cases h6 : i < 6
          · have hp28 : p ≤ 268435456 := hpl3.1 (by omega)
            have hc1 : (s[i].toNat : Int) ≤ 255 := by have := s[i].toNat_lt; omega
            have hc0 : 0 ≤ (s[i].toNat : Int) := by omega
            have hq0 : 0 ≤ (s[i].toNat : Int) % 128 * p := Int.mul_nonneg (by omega) (by omega)
            have hq1 : (s[i].toNat : Int) % 128 * p ≤ 127 * p := Int.mul_le_mul_of_nonneg_right (by omega) (by omega)
            have h6i : 6 - i = (5 - i) + 1 := by omega
            have hPP := HP.out
            rw [bys_drop s i hlt, h6i] at hPP
            clear HP h6i
            by_cases hc : (s[i].toNat : Int) < 128
            · rw [ptF_last hc] at hPP
              have HPP : Hid (ptV s b = pre ++ [((s[i].toNat : Int) % 128 * p, true)]) := hPP
              clear hPP
              obtain ⟨fn4, tmps4, assign4, body4, hy4, hR4⟩ := hY pre ((s[i].toNat : Int) % 128 * p, true) wr hJs (by rw [HPP.out]; simp)
              dsimp only [encP] at hy4
              gi_wp2
              refine hR4.mono ?_
              rintro e W4 (⟨rfl, hJ4, hk4⟩ | ⟨rfl, hJx4⟩)
              · gi_wp2
                refine bodyPost_ret (results_none rfl _ _ _) rfl ?_
                exact ⟨⟨_, rfl⟩, .inl ⟨_, HPP.out.symm, hJ4⟩⟩
              · gi_wp2
                refine bodyPost_ret (results_none rfl _ _ _) rfl ?_
                exact ⟨⟨_, rfl⟩, .inr ⟨_, trivial, hJx4⟩⟩
            · have hdc : decide ((s[i].toNat : Int) < 128) = false := decide_eq_false hc
              rw [ptF_more (by omega)] at hPP
              have HPP : Hid (ptV s b = (pre ++ [((s[i].toNat : Int) % 128 * p, false)]) ++ ptF (6 - (i + 1)) (p * 128) ((bys s).drop (i + 1))) := by
                show _ = _
                rw [hPP, show 6 - (i + 1) = 5 - i by omega]; simp
              have HPl := hplc.next (by omega)
              clear hPP hplc
              obtain ⟨fn4, tmps4, assign4, body4, hy4, hR4⟩ := hY pre ((s[i].toNat : Int) % 128 * p, false) wr hJs (by rw [HPP.out]; simp)
              dsimp only [encP] at hy4
              gi_wp2
              refine hR4.mono ?_
              rintro e W4 (⟨rfl, hJ4, hk4⟩ | ⟨rfl, hJx4⟩)
              · gi_wp2
                go_roundw
                case rel => exact ⟨i + 1, _, _, by omega, by omega, by omega, by go_num, rfl, HPl, HPP, hk4.boxed1 bs, hJ4⟩
                case measure => simp [intOf]; omega
              · gi_wp2
                refine bodyPost_ret (results_none rfl _ _ _) rfl ?_
                exact ⟨⟨_, rfl⟩, .inr ⟨_, trivial, hJx4⟩⟩
          · have hi : i = 6 := by omega
            have hp34 : ¬ p ≤ 268435456 := fun h => h6 (by have := hpl3.2 h; omega)
            have HPP : Hid (ptV s b = pre) := by show _ = _; rw [HP.out, hi]; simp [ptF]
            clear HP
            gi_wp2
            go_end0
            first | exact ⟨⟨_, rfl⟩, .inl ⟨_, HPP.out.symm, hJs⟩⟩ | exact ⟨⟨_, rfl⟩, .inl (by rw [HPP.out]; exact hJs)⟩
        · have HPP : Hid (ptV s b = pre) := by show _ = _; rw [HP.out, bys_end s i (by omega), ptF_nil]; simp
          clear HP
          gi_wp2
          go_end0
          exact ⟨⟨_, rfl⟩, .inl ⟨_, HPP.out.symm, hJs⟩⟩
    · gi_wp2
      refine bodyPost_ret (results_none rfl _ _ _) rfl ?_
      exact ⟨⟨_, rfl⟩, .inr ⟨_, trivial, hJx3⟩⟩

set_option maxHeartbeats 1000000 in
/-- The closure's maker: both arguments are boxed. -/
theorem prefixParts_in (m : Nat) (s : ByteArray) (b : Int) (w : World) :
    CallsIn Fence.wide m Try.prog 97 #[.string s, .int .i64 b] w fun e w' => e = .returned (.func (.func 109) #[] #[.pointer (some ⟨w.heap.size, 0, none⟩), .pointer (some ⟨w.heap.size + 1, 0, none⟩)])
      ∧ w' = (w.alloc (.cells #[.string s] 9)).alloc (.cells #[.int .i64 b] 2) := by
  refine callsIn_of_wp Try.func97 rfl trivial ?_ rfl
  simp only [Try.ntmps97, List.size_toArray, List.length_cons, List.length_nil, Nat.reduceAdd, Nat.reduceSub, Array.replicate_succ, Array.replicate_zero, List.push_toArray, List.append_toArray, List.nil_append, List.cons_append]
  gi_wp2
  go_ret
  exact ⟨rfl, rfl⟩

theorem parts_stops (m : Nat) (hm : 1 ≤ m) (Bs Bb : Nat) (s : ByteArray) (b : Int) (hs : s.size ≤ maxLen) (h1 : 1 ≤ b) (h8 : b ≤ 8) (w : World) (hBs : Boxed w Bs 9 (.string s)) (hBb : Boxed w Bb 2 (.int .i64 b)) :
    SeqStopsK Fence.wide m Try.prog 109 #[.pointer (some ⟨Bs, 0, none⟩), .pointer (some ⟨Bb, 0, none⟩)] encP (Kept2 Bs Bb) (fun ys => ys = ptV s b) (fun _ => True) (ptV s b).length w :=
  fun l J Jx W hW _ _ hY h0 => parts1_in m hm l Bs Bb s b hs h1 h8 J Jx hY W ((hW.block Bs hBs.lt).trans hBs) ((hW.block Bb hBb.lt).trans hBb) h0
end Go.Proofs.Ytejmnkabmajebaa
/- Chapter 3's ReadPrefixed of the model. -/
namespace Go.Proofs.Ytejmnkabmajebaa
open Go.RowKit
set_option maxRecDepth 100000
set_option linter.unusedSimpArgs false
set_option linter.unusedVariables false

theorem rdF_end (k : Nat) (n p : Int) (i : Nat) : rdF k n p i [] = (-1, 0) := by cases k <;> rfl
theorem rdF_last {k : Nat} {n p c : Int} {i : Nat} {cs : List Int} (h : c < 128) : rdF (k + 1) n p i (c :: cs) = if 268435456 < n + c % 128 * p ∨ (1 < i ∧ c = 0) then (-1, 0) else (n + c % 128 * p, (i : Int) + 1) := by simp only [rdF, if_pos h]
theorem rdF_more {k : Nat} {n p c : Int} {i : Nat} {cs : List Int} (h : ¬ c < 128) : rdF (k + 1) n p i (c :: cs) = rdF k (n + c % 128 * p) (p * 128) (i + 1) cs := by simp only [rdF, if_neg h]

set_option maxRecDepth 100000 in
set_option maxHeartbeats 4000000 in
theorem specRead (s : ByteArray) (b : Int) (w : World) (hs : s.size ≤ maxLen) : Calls Try.prog 80 #[.string s, .int .i64 b] w fun e w' => e = .returned (.tuple #[.int .i64 (rdV s b).1, .int .i64 (rdV s b).2]) ∧ Below w.heap.size w w' := by
  unfold maxLen at hs
  by_cases h0 : s.size = 0
  · rw [rdV_empty h0]
    obtain rfl := size0 h0
    go_enter Try.func80, Try.ntmps80
    go_wp2_with fail
    go_ret2
    exact ⟨rfl, Below.refl _ _⟩
  have hp : 0 < s.size := by omega
  have hne := list_ne hp
  have hne' := list_isEmpty hp
  cases hb : inB b 1 8
  · rw [rdV_bits hb]
    go_enter Try.func80, Try.ntmps80
    go_wp2_with (go_at_call 75; refine (specIn _ _ _ _).mono ?_; rw [hb]; rintro e w' ⟨rfl, rfl⟩)
    go_ret2
    exact ⟨rfl, Below.refl _ _⟩
  obtain ⟨h1, h8⟩ := inB_true hb
  obtain ⟨hp1, hp2⟩ := pw_lo h1 h8
  have hpw : (2 : Int) ^ b.toNat = pw b := rfl
  have hx : (s[0].toNat : Int) ≤ 255 := by have := s[0].toNat_lt; omega
  have hx0 : 0 ≤ (s[0].toNat : Int) := by omega
  have hand := and_pw hx0 hx h1 h8
  have hm := Int.emod_lt_of_pos (s[0].toNat : Int) (show (0 : Int) < pw b by omega)
  have hm0 := Int.emod_nonneg (s[0].toNat : Int) (show pw b ≠ 0 by omega)
  by_cases hsm : (s[0].toNat : Int) % pw b < pw b - 1
  · rw [rdV_small hp hb hsm]
    go_enter Try.func80, Try.ntmps80
    go_wp2_with (go_at_call 75; refine (specIn _ _ _ _).mono ?_; rw [hb]; rintro e w' ⟨rfl, rfl⟩)
    go_ret2
    exact ⟨rfl, Below.refl _ _⟩
  · obtain ⟨R, hR⟩ : ∃ R, rdV s b = R := ⟨_, rfl⟩
    have hR5 := (rdV_more hp hb hsm).symm.trans hR
    rw [hR]
    clear hR
    have HR5 : Hid (rdF 5 ((s[0].toNat : Int) % pw b) 1 1 ((bys s).drop 1) = R) := hR5
    clear hR5
    go_enter Try.func80, Try.ntmps80
    go_wp2_with (go_at_call 75; refine (specIn _ _ _ _).mono ?_; rw [hb]; rintro e w' ⟨rfl, rfl⟩)
    go_loop [7, 8, 9] (fun u v t => ∃ (i : Nat) (n p : Int), 1 ≤ i ∧ i ≤ 6 ∧ i ≤ s.size ∧ t = .int .i64 i ∧ u = .int .i64 n ∧ v = .int .i64 p ∧ Plc i p ∧ 0 ≤ n ∧ n ≤ 255 + p ∧ Hid (rdF (6 - i) n p i ((bys s).drop i) = R)) (fun _ _ t => 6 - (intOf t).toNat)
    case atStart => exact ⟨1, (s[0].toNat : Int) % pw b, 1, by omega, by omega, by omega, rfl, rfl, rfl, .inl ⟨rfl, rfl⟩, by omega, by omega, HR5⟩
    case round =>
      obtain ⟨i, n, p, hi1, hi6, his, rfl, rfl, rfl, hplc, hn0, hn1, HR⟩ := hrel
      obtain ⟨-, -, hpl1, hpl2, hpl3⟩ := hplc.lo
      by_cases hlt : i < s.size
      · by_cases h6 : i < 6
        · have hp28 : p ≤ 268435456 := hpl3.1 (by omega)
          have hc1 : (s[i].toNat : Int) ≤ 255 := by have := s[i].toNat_lt; omega
          have hc0 : 0 ≤ (s[i].toNat : Int) := by omega
          have hq0 : 0 ≤ (s[i].toNat : Int) % 128 * p := Int.mul_nonneg (by omega) (by omega)
          have hq1 : (s[i].toNat : Int) % 128 * p ≤ 127 * p := Int.mul_le_mul_of_nonneg_right (by omega) (by omega)
          have hdr := bys_drop s i hlt
          have h6i : 6 - i = (5 - i) + 1 := by omega
          have hRR := HR.out
          rw [hdr, h6i] at hRR
          clear HR hdr h6i
          by_cases hc : (s[i].toNat : Int) < 128
          · rw [rdF_last hc] at hRR
            by_cases hbig : 268435456 < n + (s[i].toNat : Int) % 128 * p
            · rw [if_pos (.inl hbig)] at hRR
              have HRR : Hid ((-1, 0) = R) := hRR
              clear hRR
              go_wp2_with fail
              go_ret2
              exact ⟨by rw [← HRR.out]; rfl, Below.refl _ _⟩
            · by_cases hz : 1 < i ∧ (s[i].toNat : Int) = 0
              · rw [if_pos (.inr hz)] at hRR
                have HRR : Hid ((-1, 0) = R) := hRR
                obtain ⟨hz1, hz2⟩ := hz
                clear hRR
                go_wp2_with fail
                go_ret2
                exact ⟨by rw [← HRR.out]; rfl, Below.refl _ _⟩
              · rw [if_neg (by intro hh; rcases hh with hh | hh; exact hbig hh; exact hz hh)] at hRR
                have HRR : Hid ((n + (s[i].toNat : Int) % 128 * p, (i : Int) + 1) = R) := hRR
                clear hRR
                by_cases hz1 : 1 < i
                · have hz2 : ¬ (s[i].toNat : Int) = 0 := fun e => hz ⟨hz1, e⟩
                  clear hz
                  go_wp2_with fail
                  go_ret2
                  exact ⟨by rw [← HRR.out]; rfl, Below.refl _ _⟩
                · clear hz
                  go_wp2_with fail
                  go_ret2
                  exact ⟨by rw [← HRR.out]; rfl, Below.refl _ _⟩
          · rw [rdF_more hc] at hRR
            have HRR : Hid (rdF (6 - (i + 1)) (n + (s[i].toNat : Int) % 128 * p) (p * 128) (i + 1) ((bys s).drop (i + 1)) = R) := by show _ = _; rw [← hRR]; congr 1; omega
            have HP := hplc.next (by omega)
            clear hRR hplc
            go_wp2_with fail
            go_round
            case rel => exact ⟨i + 1, _, _, by omega, by omega, by omega, by go_num, rfl, rfl, HP, by omega, by omega, HRR⟩
            case measure => simp [intOf]; omega
        · have hi : i = 6 := by omega
          have HRR : Hid ((-1, 0) = R) := by show _ = _; rw [← HR.out, hi]; rfl
          clear HR
          go_wp2_with fail
          go_ret2
          exact ⟨by rw [← HRR.out]; rfl, Below.refl _ _⟩
      · have HRR : Hid ((-1, 0) = R) := by show _ = _; rw [← HR.out, bys_end s i (by omega), rdF_end]
        clear HR
        go_wp2_with fail
        go_ret2
        exact ⟨by rw [← HRR.out]; rfl, Below.refl _ _⟩
end Go.Proofs.Ytejmnkabmajebaa
/- The ring's own functions: where a row stands, a row put last, the last one dropped. -/
namespace Go.Proofs.Ytejmnkabmajebaa
open Go.RowKit
set_option maxRecDepth 100000
set_option linter.unusedSimpArgs false
set_option linter.unusedVariables false

/-- What the loads of a region read. -/
def S3 (b o : Nat) (v : Value) (g : Nat) (x y : Value) (u : World) : Prop := u.cell? ⟨b, o, none⟩ = some v ∧ u.cell? ⟨g, 0, none⟩ = some x ∧ u.cell? ⟨g, 1, none⟩ = some y
theorem slot1 (b first n : Nat) (sl : List Fd) (c g : Int) (w : World) (hs : sl.length = 112) (hr : RowIs w b 124 (rC sl first c g)) (hf : first < 112) (hn : n ≤ 112) :
    Calls Try.prog 104 #[.pointer (some ⟨b, 0, none⟩), .int .i64 n] w fun x w' => x = .returned (.pointer (some ⟨b, (first + n) % 112 * 2, none⟩)) ∧ Below w.heap.size w w' := by
  have c0 := hr.cell (rC_num hs first c g).1
  have hi1 : (0 : Int) ≤ ((first : Int) + n) % 112 ∧ ((first : Int) + n) % 112 < 112 := by omega
  have hi2 : (((first : Int) + n) % 112).toNat = (first + n) % 112 := by omega
  go_enter Try.func104, Try.ntmps104
  go_wp2_with fail
  go_quiet (fail)
  go_wp2_with fail
  go_ret
  exact ⟨rfl, (by repeat' (first | (with_reducible exact Below.refl _ _) | (with_reducible refine Below.drew ?_) | (with_reducible refine bo_drewN _ ?_) | (with_reducible refine bo_alloc ?_ _) | (refine bchain ?_ (by with_reducible assumption)) | (with_reducible refine Below.setCell ?_ ?_ _) | go_size))⟩

set_option maxHeartbeats 2000000 in
theorem putLast1 (b first n : Nat) (sl : List Fd) (g : Int) (f : Fd) (w : World) (hs : sl.length = 112) (hr : RowIs w b 124 (rC sl first n g)) (hf : first < 112) (hn : n ≤ 111) (hff : f.fine) (hg0 : 0 ≤ g) (hg1 : g ≤ 1000000) :
    Calls Try.prog 103 #[.pointer (some ⟨b, 0, none⟩), .agg #[.string f.n, .string f.v]] w fun x w' => x = .returned (.tuple #[]) ∧ RowIs w' b 124 (rC (sl.set ((first + n) % 112) f) first ((n + 1 : Nat) : Int) (g + wt f)) ∧ Turn b (b + 1) w w' := by
  have hbw := hr.lt
  go_enter Try.func103, Try.ntmps103
  go_wp2_with fail
  generalize hV : w.alloc (.cells #[.string f.n, .string f.v] 46) = V; have hbV : Below w.heap.size w V := (by rw [← hV]; exact (Below.refl _ _).alloc (Nat.le_refl _) _); have x0 : World.cell? V ⟨w.heap.size, 0, none⟩ = some (.string f.n) := (by rw [← hV]; simp); have x1 : World.cell? V ⟨w.heap.size, 1, none⟩ = some (.string f.v) := (by rw [← hV]; simp); have hlV : w.heap.size < (World.heap V).size := (by rw [← hV]; simp); clear hV
  have hrV := hr.new hbV
  have hbl : b < V.heap.size := hrV.lt
  have c1 := hrV.cell (rC_num hs first n g).2.1
  have hk : (first + n) % 112 < 112 := by omega
  obtain ⟨k, hkk⟩ : ∃ k, k = (first + n) % 112 := ⟨_, rfl⟩
  rw [← hkk] at hk
  obtain ⟨s0, s1⟩ := rC_slot hs first n g k hk
  have u0 := hrV.cell s0
  have u1 := hrV.cell s1
  have HK := hide hkk
  have z0 := hrV.frozen (k * 2)
  have z1 := hrV.frozen (k * 2 + 1)
  have hne : ¬ b = w.heap.size := by omega
  clear s0 s1 hkk
  have HRV := hide hrV
  clear hr hrV
  have hS0 := And.intro c1 (And.intro x0 x1)
  refine wp_region_held_drew (S := (S3 b 225 (.int .i64 n) w.heap.size (.string f.n) (.string f.v))) (by kernel_rfl) hS0 (fun hS => ?_)
  clear hS0
  refine wpAnyH_take (i := 0) (v := ?_) rfl (by kernel_rfl) (by kernel_rfl) (by kernel_rfl) (fun _ _ _ h => h) (Or.inl ⟨by rfl, ?_⟩) hS ?_; rotate_left; focus (intro w hw; clear hw; go_simp; try with_reducible rfl)
  refine wpAnyH_take (i := 1) (v := ?_) rfl (by kernel_rfl) (by kernel_rfl) (by kernel_rfl) (fun _ _ _ h => h) (Or.inl ⟨by rfl, ?_⟩) hS ?_; rotate_left; focus (intro w hw; clear hw; go_simp; try with_reducible rfl)
  refine wpAnyH_take (i := 2) (v := ?_) rfl (by kernel_rfl) (by kernel_rfl) (by kernel_rfl) (fun _ _ _ h => h) (Or.inl ⟨by rfl, ?_⟩) hS ?_; rotate_left; focus (intro w hw; clear hw; go_simp; try with_reducible rfl)
  refine wpAnyH_take (i := 3) (v := ?_) rfl (by kernel_rfl) (by kernel_rfl) (by kernel_rfl) (fun _ _ _ h => h) (Or.inl ⟨by rfl, ?_⟩) hS ?_; rotate_left; focus (intro w hw; clear hw; go_simp; try with_reducible rfl)
  refine wpAnyH_take (i := 4) (v := ?_) rfl (by kernel_rfl) (by kernel_rfl) (by kernel_rfl) (fun _ _ _ h => h) (Or.inl ⟨by rfl, ?_⟩) hS ?_; rotate_left; focus (intro w hw; obtain ⟨l0, l1, l2⟩ := hw; go_simp; try with_reducible rfl)
  refine wpAnyH_take (i := 6) (v := ?_) rfl (by kernel_rfl) (by kernel_rfl) (by kernel_rfl) (fun _ _ _ h => h) (Or.inl ⟨by rfl, ?_⟩) hS ?_; rotate_left; focus (intro w hw; obtain ⟨l0, l1, l2⟩ := hw; go_simp; try with_reducible rfl)
  refine wpAnyH_ready (rs := [5]) (by kernel_rfl) (by simp) ?_; refine AllReadyH.cons rfl (fun K hK => ?_) AllReadyH.nil; go_simp
  refine (slot1 b first n sl n g _ hs (HRV.out.new (bo_drewN 1 (Below.refl _ _))) hf (by omega)).mono ?_; rw [← HK.out]; rintro x w2 ⟨rfl, hb2⟩
  have hb2' : Below V.heap.size V w2 := bchain (bo_drewN 1 (Below.refl _ _)) hb2
  have c1' := (hb2'.cell (p := ⟨b, 225, none⟩) hbl).trans c1
  have x0' := (hb2'.cell (p := ⟨w.heap.size, 0, none⟩) hlV).trans x0
  have x1' := (hb2'.cell (p := ⟨w.heap.size, 1, none⟩) hlV).trans x1
  have u0' := (hb2'.cell (p := ⟨b, k * 2, none⟩) hbl).trans u0
  have u1' := (hb2'.cell (p := ⟨b, k * 2 + 1, none⟩) hbl).trans u1
  have z0' := (hb2'.frozen (p := ⟨b, k * 2, none⟩) hbl).trans z0
  have z1' := (hb2'.frozen (p := ⟨b, k * 2 + 1, none⟩) hbl).trans z1
  refine hK.out _ _ ⟨c1', x0', x1'⟩ (fun hS => ?_)
  clear hK K c1 u0 u1 z0 z1 hb2
  refine wpAnyH_take (i := 7) (v := ?_) rfl (by kernel_rfl) (by kernel_rfl) (by kernel_rfl) (fun _ _ _ h => h) (Or.inl ⟨by rfl, ?_⟩) hS ?_; rotate_left; focus (intro w hw; clear hw; go_simp; try with_reducible rfl)
  refine wpAnyH_ready (rs := [8]) (by kernel_rfl) (by simp) ?_; refine AllReadyH.cons rfl (fun K hK => ?_) AllReadyH.nil; go_simp
  have hk1 : ¬ k * 2 = 225 := by omega
  have hk2 : ¬ k * 2 + 1 = 225 := by omega
  have hr3 := ((HRV.out.new hb2').set (k * 2) (.string f.n)).set (k * 2 + 1) (.string f.v)
  rw [rC_setF hs _ _ _ k hk f] at hr3
  have hs' : (sl.set k f).length = 112 := by simp [hs]
  have ht3 : Turn b (b + 1) V ((w2.setCell ⟨b, k * 2, none⟩ (.string f.n)).setCell ⟨b, k * 2 + 1, none⟩ (.string f.v)) :=
    ((turn_new hb2' b (b + 1)).setCell _ (.inl ⟨Nat.le_refl _, by simp⟩)).setCell _ (.inl ⟨Nat.le_refl _, by simp⟩)
  generalize (w2.setCell ⟨b, k * 2, none⟩ (.string f.n)).setCell ⟨b, k * 2 + 1, none⟩ (.string f.v) = w3 at *
  have y0 := (ht3.cell w.heap.size 0 hlV (by omega)).trans x0
  have y1 := (ht3.cell w.heap.size 1 hlV (by omega)).trans x1
  have c3 := hr3.cell (rC_num hs' first n g).2.1
  have q3 := hr3.frozen 225
  refine hK.out _ _ ⟨c3, y0, y1⟩ (fun _ => ?_)
  clear hK K hS c1' x0' x1' u0' u1' z0' z1' hb2' w2
  refine wpAnyH_done (by kernel_rfl) ?_ _
  have HR3 := hide hr3
  clear hr3
  go_wp2_with fail
  have hr4 := HR3.out.set 225 (.int .i64 ((n : Int) + 1))
  rw [rC_set225 hs'] at hr4
  have ht4 := ht3.setCell (p := ⟨b, 225, none⟩) (.int .i64 ((n : Int) + 1)) (.inl ⟨Nat.le_refl _, by simp⟩)
  generalize w3.setCell ⟨b, 225, none⟩ (.int .i64 ((n : Int) + 1)) = w4 at *
  replace y0 := (ht4.cell w.heap.size 0 hlV (by omega)).trans x0
  replace y1 := (ht4.cell w.heap.size 1 hlV (by omega)).trans x1
  have d2 := hr4.cell (rC_num hs' first ((n : Int) + 1) g).2.2
  have d3 := hr4.frozen 226
  have hblW := hr4.lt
  have hzr := wt_range f
  obtain ⟨z, hz⟩ : ∃ z, wt f = z := ⟨_, rfl⟩
  rw [hz] at hzr
  have fin : ∀ w5, Below w4.heap.size w4 w5 → RowIs (w5.setCell ⟨b, 226, none⟩ (.int .i64 (g + z))) b 124 (rC (sl.set ((first + n) % 112) f) first ((n + 1 : Nat) : Int) (g + wt f)) ∧ Turn b (b + 1) w (w5.setCell ⟨b, 226, none⟩ (.int .i64 (g + z))) := fun w5 h5 => by
    have hr5 := (hr4.new h5).set 226 (.int .i64 (g + z))
    rw [rC_set226 hs', HK.out] at hr5
    rw [hz]
    refine ⟨hr5, ((turn_new hbV b (b + 1)).trans (ht4.trans (turn_new h5 b (b + 1)))).setCell _ (.inl ⟨Nat.le_refl _, by simp⟩)⟩
  have HZ := hide hz
  clear hz x0 x1 c3 q3 ht4 ht3 hr4 HR3 HRV
  have hzw : IntKind.i64.wrap (g + z) = g + z := by rw [IntKind.wrap_i64]; omega
  refine wp_region_any (by kernel_rfl) ?_; change wpAny _ _ _ _ _ _ _ (World.drew _)
  refine wpAny_take (i := 0) (v := ?_) rfl (by kernel_rfl) (by kernel_rfl) (by kernel_rfl) (fun _ _ _ h => h) (Or.inl ⟨by rfl, ?_⟩) ?_; rotate_left; focus (intro w; go_simp; try with_reducible rfl)
  refine wpAny_take (i := 1) (v := ?_) rfl (by kernel_rfl) (by kernel_rfl) (by kernel_rfl) (fun _ _ _ h => h) (Or.inl ⟨by rfl, ?_⟩) ?_; rotate_left; focus (intro w; go_simp; try with_reducible rfl)
  refine wpAny_take (i := 2) (v := ?_) rfl (by kernel_rfl) (by kernel_rfl) (by kernel_rfl) (fun _ _ _ h => h) (Or.inl ⟨by rfl, ?_⟩) ?_; rotate_left; focus (intro w; go_simp; try with_reducible rfl)
  refine wpAny_ready (rs := [3, 4]) (by kernel_rfl) (by simp) ?_; refine AllReady.cons rfl (fun K hK => ?_) (AllReady.cons rfl (fun K hK => ?_) AllReady.nil)
  · go_simp; refine hK _ _ ?_; clear hK K
    refine wpAny_ready (rs := [4]) (by kernel_rfl) (by simp) ?_; refine AllReady.cons rfl (fun K hK => ?_) AllReady.nil
    go_simp; refine hK _ _ ?_; clear hK K
    refine wpAny_ready (rs := [5]) (by kernel_rfl) (by simp) ?_; refine AllReady.cons rfl (fun K hK => ?_) AllReady.nil
    go_simp
    refine (implWt f _ hff).mono ?_; rw [HZ.out]; rintro x w5 ⟨rfl, hb5⟩
    have hb5' : Below w4.heap.size w4 w5 := bchain (bo_drewN 1 (Below.refl _ _)) hb5
    have e2 := (hb5'.cell (p := ⟨b, 226, none⟩) hblW).trans d2
    have e3 := (hb5'.frozen (p := ⟨b, 226, none⟩) hblW).trans d3
    refine hK _ _ ?_
    clear hK K
    refine wpAny_take (i := 6) (v := ?_) rfl (by kernel_rfl) (by kernel_rfl) (by kernel_rfl) (fun _ _ _ h => h) (Or.inl ⟨by rfl, ?_⟩) ?_; rotate_left; focus (intro w; go_simp; try with_reducible rfl)
    refine wpAny_take (i := 7) (v := ?_) rfl (by kernel_rfl) (by kernel_rfl) (by kernel_rfl) (fun _ _ _ h => h) (Or.inl ⟨by rfl, ?_⟩) ?_; rotate_left; focus (intro w; go_simp; try with_reducible rfl)
    refine wpAny_take (i := 8) (v := ?_) rfl (by kernel_rfl) (by kernel_rfl) (by kernel_rfl) (fun _ _ _ h => h) (Or.inl ⟨by rfl, ?_⟩) ?_; rotate_left; focus (intro w; go_simp; try with_reducible rfl)
    refine wpAny_ready (rs := [9]) (by kernel_rfl) (by simp) ?_; refine AllReady.cons rfl (fun K hK => ?_) AllReady.nil
    go_simp; refine hK _ _ ?_; clear hK K
    refine wpAny_done (by kernel_rfl) ?_ _
    go_wp2_with fail
    refine bodyPost_end (v := .tuple #[]) (by simp [results, Try.results103, go_sem]) rfl ?_
    exact ⟨rfl, fin _ hb5'⟩
  · go_simp; refine hK _ _ ?_; clear hK K
    refine wpAny_ready (rs := [3, 5]) (by kernel_rfl) (by simp) ?_; refine AllReady.cons rfl (fun K hK => ?_) (AllReady.cons rfl (fun K hK => ?_) AllReady.nil)
    · go_simp; refine hK _ _ ?_; clear hK K
      refine wpAny_ready (rs := [5]) (by kernel_rfl) (by simp) ?_; refine AllReady.cons rfl (fun K hK => ?_) AllReady.nil
      go_simp
      refine (implWt f _ hff).mono ?_; rw [HZ.out]; rintro x w5 ⟨rfl, hb5⟩
      have hb5' : Below w4.heap.size w4 w5 := bchain (bo_drewN 1 (Below.refl _ _)) hb5
      have e2 := (hb5'.cell (p := ⟨b, 226, none⟩) hblW).trans d2
      have e3 := (hb5'.frozen (p := ⟨b, 226, none⟩) hblW).trans d3
      refine hK _ _ ?_
      clear hK K
      refine wpAny_take (i := 6) (v := ?_) rfl (by kernel_rfl) (by kernel_rfl) (by kernel_rfl) (fun _ _ _ h => h) (Or.inl ⟨by rfl, ?_⟩) ?_; rotate_left; focus (intro w; go_simp; try with_reducible rfl)
      refine wpAny_take (i := 7) (v := ?_) rfl (by kernel_rfl) (by kernel_rfl) (by kernel_rfl) (fun _ _ _ h => h) (Or.inl ⟨by rfl, ?_⟩) ?_; rotate_left; focus (intro w; go_simp; try with_reducible rfl)
      refine wpAny_take (i := 8) (v := ?_) rfl (by kernel_rfl) (by kernel_rfl) (by kernel_rfl) (fun _ _ _ h => h) (Or.inl ⟨by rfl, ?_⟩) ?_; rotate_left; focus (intro w; go_simp; try with_reducible rfl)
      refine wpAny_ready (rs := [9]) (by kernel_rfl) (by simp) ?_; refine AllReady.cons rfl (fun K hK => ?_) AllReady.nil
      go_simp; refine hK _ _ ?_; clear hK K
      refine wpAny_done (by kernel_rfl) ?_ _
      go_wp2_with fail
      refine bodyPost_end (v := .tuple #[]) (by simp [results, Try.results103, go_sem]) rfl ?_
      exact ⟨rfl, fin _ hb5'⟩
    · go_simp
      refine (implWt f _ hff).mono ?_; rw [HZ.out]; rintro x w5 ⟨rfl, hb5⟩
      have hb5' : Below w4.heap.size w4 w5 := bchain (bo_drewN 1 (Below.refl _ _)) hb5
      have e2 := (hb5'.cell (p := ⟨b, 226, none⟩) hblW).trans d2
      have e3 := (hb5'.frozen (p := ⟨b, 226, none⟩) hblW).trans d3
      refine hK _ _ ?_
      clear hK K
      refine wpAny_ready (rs := [3]) (by kernel_rfl) (by simp) ?_; refine AllReady.cons rfl (fun K hK => ?_) AllReady.nil
      go_simp; refine hK _ _ ?_; clear hK K
      refine wpAny_take (i := 6) (v := ?_) rfl (by kernel_rfl) (by kernel_rfl) (by kernel_rfl) (fun _ _ _ h => h) (Or.inl ⟨by rfl, ?_⟩) ?_; rotate_left; focus (intro w; go_simp; try with_reducible rfl)
      refine wpAny_take (i := 7) (v := ?_) rfl (by kernel_rfl) (by kernel_rfl) (by kernel_rfl) (fun _ _ _ h => h) (Or.inl ⟨by rfl, ?_⟩) ?_; rotate_left; focus (intro w; go_simp; try with_reducible rfl)
      refine wpAny_take (i := 8) (v := ?_) rfl (by kernel_rfl) (by kernel_rfl) (by kernel_rfl) (fun _ _ _ h => h) (Or.inl ⟨by rfl, ?_⟩) ?_; rotate_left; focus (intro w; go_simp; try with_reducible rfl)
      refine wpAny_ready (rs := [9]) (by kernel_rfl) (by simp) ?_; refine AllReady.cons rfl (fun K hK => ?_) AllReady.nil
      go_simp; refine hK _ _ ?_; clear hK K
      refine wpAny_done (by kernel_rfl) ?_ _
      go_wp2_with fail
      refine bodyPost_end (v := .tuple #[]) (by simp [results, Try.results103, go_sem]) rfl ?_
      exact ⟨rfl, fin _ hb5'⟩
end Go.Proofs.Ytejmnkabmajebaa
/- What Noted and Resized make of a Table, in plain words. -/
namespace Go.Proofs.Ytejmnkabmajebaa
/-- What Noted makes of a Table of this Room and these Rows. -/
def notedD (room : Int) (L : List Fd) (f : Fd) : (Int × List Fd) × Bool := if okT room L then (if okF f then ((room, shr room (f :: L)), true) else ((room, L), false)) else ((0, []), false)
/-- What Resized makes of it. -/
def resizedD (room : Int) (L : List Fd) (r : Int) : (Int × List Fd) × Bool := if okT room L then (if inB r 0 1000 then ((r, shr r L), true) else ((room, L), false)) else ((0, []), false)
theorem own_nil (w : World) (base : Nat) (e : TypeId) : w.ownsRow base e 2 (.slice none 0 0) 0 (fv []) := ⟨rfl, .inl ⟨rfl, rfl⟩⟩
end Go.Proofs.Ytejmnkabmajebaa
/- Plain and FieldOf, of the program and of the model, in plain words. -/
namespace Go.Proofs.Ytejmnkabmajebaa
open Go.RowKit
set_option maxRecDepth 100000
set_option linter.unusedSimpArgs false
set_option linter.unusedVariables false

theorem szL_mem {L : List Fd} : ∀ f ∈ L, szF f ≤ szL L := by
  induction L with
  | nil => intro f hf; cases hf
  | cons g L ih =>
    intro f hf
    have h1 := szF_pos g
    have h2 := szL_pos L
    simp only [szL]
    rcases List.mem_cons.1 hf with rfl | hf
    · omega
    · have := ih f hf; omega
/-- How many bytes the Names and Values have; -1: one of them is not right. -/
def plainV (L : List Fd) : Int := if L.all okF then szL L else -1
theorem plain_bad {L : List Fd} (k : Nat) (hk : k < L.length) (h : okF L[k] = false) : plainV L = -1 := by
  unfold plainV
  rw [if_neg]
  intro e
  have := List.all_eq_true.1 e _ (List.getElem_mem hk)
  rw [h] at this; cases this
theorem plain_good {L : List Fd} (h : ∀ f ∈ L, okF f = true) : plainV L = szL L := by unfold plainV; rw [if_pos (List.all_eq_true.2 h)]
theorem szF_ok {f : Fd} (h : okF f = true) : szF f ≤ 100 := by have := okF_parts h; unfold szF; omega
theorem szL_ok {L : List Fd} (h : ∀ f ∈ L, okF f = true) : szL L ≤ 100 * L.length := by
  induction L with
  | nil => simp [szL]
  | cons f L ih => have := szF_ok (h f (by simp)); have := ih fun g hg => h g (by simp [hg]); simp only [szL, List.length_cons]; omega

set_option maxHeartbeats 1000000 in
theorem implRights (L : List Fd) (v : Value) (w : World) (hr0 : Reads w v L.length 2 (fv L)) (hf : ∀ f ∈ L, f.fine) :
    Calls Try.prog 40 #[v] w fun x w' => x = .returned (.bool (L.all okF)) ∧ Below w.heap.size w w' := by
  obtain ⟨hl, ad, cap, rfl, h1, h2, h3⟩ := hr0
  have H3 := hide h3; have HF := hide hf
  clear h3 hf
  unfold maxLen at h2
  obtain ⟨R, hR⟩ : ∃ R, R = L.all okF := ⟨_, rfl⟩
  rw [← hR]
  have HR := hide hR
  clear hR
  go_enter Try.func40, Try.ntmps40
  go_wp2_with fail
  go_loopw [7] (fun i wr => ∃ (k : Nat), i = .int .i64 k ∧ k ≤ L.length ∧ (∀ f ∈ L.take k, okF f = true) ∧ Below w.heap.size w wr) (fun i _ => L.length - (intOf i).toNat)
  case atStart => exact ⟨0, rfl, Nat.zero_le _, by simp, Below.refl _ _⟩
  case round =>
    obtain ⟨k, rfl, hk, hall, hb⟩ := hrel
    by_cases hlt : k < L.length
    · obtain ⟨b, o, rfl, hbw, hc⟩ := H3.out (by omega)
      obtain ⟨s0, s1⟩ := fv_get L k hlt
      have hfk := HF.out _ (List.getElem_mem hlt)
      have HA := hide (all_take_succ L k hlt hall)
      have HB : Hid (okF L[k] = false → L.all okF = false) := fun h => by
        cases e : L.all okF
        · rfl
        · have := List.all_eq_true.1 e _ (List.getElem_mem hlt); rw [h] at this; cases this
      obtain ⟨f, hff⟩ : ∃ f, f = L[k] := ⟨_, rfl⟩
      rw [← hff] at s0 s1 hfk HA HB
      have c0 : wr.cell? ⟨b, o + k * 2, none⟩ = some (.string f.n) := by rw [hb.cell (p := ⟨b, o + k * 2, none⟩) hbw]; exact hc _ _ s0
      have c1 : wr.cell? ⟨b, o + k * 2 + 1, none⟩ = some (.string f.v) := by rw [hb.cell (p := ⟨b, o + k * 2 + 1, none⟩) hbw]; exact hc _ _ s1
      clear hc s0 s1 hff hall
      cases hok : okF f
      · have hRf := HR.out.trans (HB.out hok)
        subst hRf
        clear HB HR HA
        go_wp2_with fail
        refine (implRight f _ hfk).mono ?_; rw [hok]; rintro x w1 ⟨rfl, hb1⟩
        go_wp2_with fail
        go_ret
        exact ⟨rfl, bchain (bo_alloc hb _) hb1⟩
      · have HAA := hide (HA.out hok)
        clear HA HB
        go_wp2_with fail
        refine (implRight f _ hfk).mono ?_; rw [hok]; rintro x w1 ⟨rfl, hb1⟩
        go_wp2_with fail
        exact ⟨⟨k + 1, by go_num, by omega, HAA.out, bchain (bo_alloc hb _) hb1⟩, by simp [intOf]; omega⟩
    · obtain rfl : k = L.length := by omega
      rw [List.take_length] at hall
      have hRf := HR.out.trans (List.all_eq_true.2 hall)
      subst hRf
      clear HR hall
      go_wp2_with fail
      go_ret
      exact ⟨rfl, hb⟩
set_option maxHeartbeats 1000000 in
theorem implPlain (L : List Fd) (v : Value) (w : World) (hr0 : Reads w v L.length 2 (fv L)) (hf : ∀ f ∈ L, f.fine) (hL : L.length ≤ 1048576) :
    Calls Try.prog 19 #[v] w fun x w' => x = .returned (.int .i64 (plainV L)) ∧ Below w.heap.size w w' := by
  have HRD := hide hr0
  obtain ⟨hl, ad, cap, rfl, h1, h2, h3⟩ := hr0
  have H3 := hide h3
  clear h3
  unfold maxLen at h2
  cases hA : L.all okF
  · have hP : plainV L = -1 := by simp [plainV, hA]
    rw [hP]
    clear hP
    go_enter Try.func19, Try.ntmps19
    go_wp2_with fail
    refine (implRights L _ _ HRD.out hf).mono ?_; rw [hA]; rintro x w1 ⟨rfl, hb1⟩
    go_wp2_with fail
    go_ret
    exact ⟨rfl, hb1⟩
  · have hok : ∀ f ∈ L, okF f = true := List.all_eq_true.1 hA
    rw [plain_good hok]
    have HOK := hide hok
    clear hok
    go_enter Try.func19, Try.ntmps19
    go_wp2_with fail
    refine (implRights L _ _ HRD.out hf).mono ?_; rw [hA]; rintro x w1 ⟨rfl, hb1⟩
    go_wp2_with fail
    clear hA
    obtain ⟨V1, rfl⟩ : ∃ x : World, x = w1 := ⟨_, rfl⟩
    go_loopw [3, 11] (fun s i wr => ∃ (k : Nat), i = .int .i64 k ∧ s = .int .i64 (szL (L.take k)) ∧ k ≤ L.length ∧ Below w.heap.size w wr) (fun _ i _ => L.length - (intOf i).toNat)
    case atStart => exact ⟨0, rfl, by simp [szL], Nat.zero_le _, hb1⟩
    case round =>
      obtain ⟨k, rfl, rfl, hk, hb⟩ := hrel
      by_cases hlt : k < L.length
      · obtain ⟨b, o, rfl, hbw, hc⟩ := H3.out (by omega)
        obtain ⟨s0, s1⟩ := fv_get L k hlt
        have hfk := okF_parts (HOK.out _ (List.getElem_mem hlt))
        have hsu := szL_succ L k hlt
        have hp := szL_pos (L.take k)
        have hrg := szL_ok (L := L.take k) fun f hf => HOK.out f (List.mem_of_mem_take hf)
        rw [List.length_take, Nat.min_eq_left (by omega)] at hrg
        have hrg' : szL (L.take k) ≤ 104857600 := by omega
        clear hrg
        obtain ⟨f, hff⟩ : ∃ f, f = L[k] := ⟨_, rfl⟩
        rw [← hff] at s0 s1 hfk hsu
        have c0 : wr.cell? ⟨b, o + k * 2, none⟩ = some (.string f.n) := by rw [hb.cell (p := ⟨b, o + k * 2, none⟩) hbw]; exact hc _ _ s0
        have c1 : wr.cell? ⟨b, o + k * 2 + 1, none⟩ = some (.string f.v) := by rw [hb.cell (p := ⟨b, o + k * 2 + 1, none⟩) hbw]; exact hc _ _ s1
        clear hc s0 s1 hff
        have HU := hide hsu
        obtain ⟨g1, g2, g3⟩ := hfk
        generalize szL (L.take k) = A at *
        clear hsu
        go_wp2_with fail
        exact ⟨⟨k + 1, by go_num, int_eq (by rw [HU.out]; unfold szF; omega), by omega, bo_alloc hb _⟩, by simp [intOf]; omega⟩
      · obtain rfl : k = L.length := by omega
        rw [List.take_length]
        go_wp2_with fail
        go_ret
        exact ⟨rfl, hb⟩
set_option maxHeartbeats 1000000 in
theorem specPlain (L : List Fd) (v : Value) (w : World) (hr0 : Reads w v L.length 2 (fv L)) (hf : ∀ f ∈ L, f.fine) (hL : L.length ≤ 1048576) :
    Calls Try.prog 20 #[v] w fun x w' => x = .returned (.int .i64 (plainV L)) ∧ Below w.heap.size w w' := by
  obtain ⟨hl, ad, cap, rfl, h1, h2, h3⟩ := hr0
  have H3 := hide h3; have HF := hide hf
  clear h3 hf
  unfold maxLen at h2
  obtain ⟨R, hR⟩ : ∃ R, R = plainV L := ⟨_, rfl⟩
  rw [← hR]
  have HR := hide hR
  clear hR
  go_enter Try.func20, Try.ntmps20
  go_wp2_with fail
  go_loopw [3, 4] (fun s i wr => ∃ (k : Nat), i = .int .i64 k ∧ s = .int .i64 (szL (L.take k)) ∧ k ≤ L.length ∧ (∀ f ∈ L.take k, okF f = true) ∧ Below w.heap.size w wr) (fun _ i _ => L.length - (intOf i).toNat)
  case atStart => exact ⟨0, rfl, by simp [szL], Nat.zero_le _, by simp, Below.refl _ _⟩
  case round =>
    obtain ⟨k, rfl, rfl, hk, hall, hb⟩ := hrel
    by_cases hlt : k < L.length
    · obtain ⟨b, o, rfl, hbw, hc⟩ := H3.out (by omega)
      obtain ⟨s0, s1⟩ := fv_get L k hlt
      have hfk := HF.out _ (List.getElem_mem hlt)
      have HA := hide (all_take_succ L k hlt hall)
      have HB := hide (plain_bad k hlt)
      have HU := hide (szL_succ L k hlt)
      have hp := szL_pos (L.take k)
      have hrg := szL_ok hall
      rw [List.length_take, Nat.min_eq_left (by omega)] at hrg
      have hrg' : szL (L.take k) ≤ 104857600 := by omega
      obtain ⟨f, hff⟩ : ∃ f, f = L[k] := ⟨_, rfl⟩
      rw [← hff] at s0 s1 hfk HA HB HU
      have c0 : wr.cell? ⟨b, o + k * 2, none⟩ = some (.string f.n) := by rw [hb.cell (p := ⟨b, o + k * 2, none⟩) hbw]; exact hc _ _ s0
      have c1 : wr.cell? ⟨b, o + k * 2 + 1, none⟩ = some (.string f.v) := by rw [hb.cell (p := ⟨b, o + k * 2 + 1, none⟩) hbw]; exact hc _ _ s1
      have hbr : b < wr.heap.size := Nat.lt_of_lt_of_le hbw hb.size
      clear hc s0 s1 hff hall hrg
      generalize szL (L.take k) = A at *
      cases hok : okF f
      · have hRf := HR.out.trans (HB.out hok)
        subst hRf
        clear HB HR HA
        go_wp2_with fail
        refine (specField f _ hfk).mono ?_; rw [hok]; rintro x w1 ⟨rfl, hb1⟩
        go_wp2_with fail
        go_ret
        exact ⟨rfl, bchain hb hb1⟩
      · have HAA := hide (HA.out hok)
        have hok' := okF_parts hok
        obtain ⟨g1, g2, g3⟩ := hok'
        clear HA HB
        go_wp2_with fail
        refine (specField f _ hfk).mono ?_; rw [hok]; rintro x w1 ⟨rfl, hb1⟩
        have c0' := (hb1.cell (p := ⟨b, o + k * 2, none⟩) hbr).trans c0
        have c1' := (hb1.cell (p := ⟨b, o + k * 2 + 1, none⟩) hbr).trans c1
        clear c0 c1
        have HB1 := hide (bchain hb hb1)
        clear hb hb1
        go_wp2_with fail
        go_quiet (fail)
        go_wp2_with fail
        go_roundw
        case rel => exact ⟨k + 1, by go_num, int_eq (by rw [HU.out]; unfold szF; omega), by omega, HAA.out, bo_drewN _ HB1.out⟩
        case measure => simp [intOf]; omega
    · obtain rfl : k = L.length := by omega
      rw [List.take_length] at hall ⊢
      have hRf := HR.out.trans (plain_good hall)
      subst hRf
      clear HR hall
      go_wp2_with fail
      go_ret
      exact ⟨rfl, hb⟩
/-- The Value of the first Field with this Name. -/
def firstV (name : ByteArray) : List Fd → ByteArray × Bool
  | [] => (⟨#[]⟩, false)
  | f :: L => if (f.n.toList == name.toList) = true then (f.v, true) else firstV name L
theorem first_skip {name : ByteArray} {L : List Fd} (k : Nat) (h : ∀ f ∈ L.take k, (f.n.toList == name.toList) = false) : firstV name L = firstV name (L.drop k) := by
  induction k generalizing L with
  | zero => simp
  | succ k ih =>
    cases L with
    | nil => simp
    | cons f L =>
      rw [firstV, h f (by simp)]
      simp only [Bool.false_eq_true, if_false, List.drop_succ_cons]
      exact ih fun g hg => h g (by simp [hg])
theorem first_at {name : ByteArray} {L : List Fd} (k : Nat) (hk : k < L.length) (h : ∀ f ∈ L.take k, (f.n.toList == name.toList) = false) (hy : (L[k].n.toList == name.toList) = true) : firstV name L = (L[k].v, true) := by
  rw [first_skip k h, List.drop_eq_getElem_cons hk, firstV, if_pos hy]
theorem first_none {name : ByteArray} {L : List Fd} (h : ∀ f ∈ L, (f.n.toList == name.toList) = false) : firstV name L = (⟨#[]⟩, false) := by
  rw [first_skip L.length (by simpa using h)]; simp [firstV]
theorem no_take_succ {name : ByteArray} (L : List Fd) (k : Nat) (h : k < L.length) (ha : ∀ f ∈ L.take k, (f.n.toList == name.toList) = false) (hk : (L[k].n.toList == name.toList) = false) : ∀ f ∈ L.take (k + 1), (f.n.toList == name.toList) = false := by
  rw [List.take_succ_eq_append_getElem h]
  intro f hf
  rcases List.mem_append.1 hf with h | h
  · exact ha f h
  · simp only [List.mem_singleton] at h; rw [h]; exact hk

set_option maxHeartbeats 1000000 in
theorem implFieldOf (L : List Fd) (name : ByteArray) (v : Value) (w : World) (hr0 : Reads w v L.length 2 (fv L)) (hz : ∀ f ∈ L, f.v.size ≤ 281474976710656) :
    Calls Try.prog 16 #[v, .string name] w fun x w' => x = .returned (.tuple #[.string (firstV name L).1, .bool (firstV name L).2]) ∧ Below w.heap.size w w' := by
  obtain ⟨hl, ad, cap, rfl, h1, h2, h3⟩ := hr0
  have H3 := hide h3; have HZ := hide hz
  clear h3 hz
  unfold maxLen at h2
  obtain ⟨R, hR⟩ : ∃ R, R = firstV name L := ⟨_, rfl⟩
  rw [← hR]
  have HR := hide hR
  clear hR
  go_enter Try.func16, Try.ntmps16
  go_wp2_with fail
  go_loopw [10] (fun i wr => ∃ (k : Nat), i = .int .i64 k ∧ k ≤ L.length ∧ (∀ f ∈ L.take k, (f.n.toList == name.toList) = false) ∧ Below w.heap.size w wr) (fun i _ => L.length - (intOf i).toNat)
  case atStart => exact ⟨0, rfl, Nat.zero_le _, by simp, Below.refl _ _⟩
  case round =>
    obtain ⟨k, rfl, hk, hall, hb⟩ := hrel
    by_cases hlt : k < L.length
    · obtain ⟨b, o, rfl, hbw, hc⟩ := H3.out (by omega)
      obtain ⟨s0, s1⟩ := fv_get L k hlt
      have hzk := HZ.out _ (List.getElem_mem hlt)
      have HA := hide (no_take_succ L k hlt hall)
      have HB := hide (first_at k hlt hall)
      obtain ⟨f, hff⟩ : ∃ f, f = L[k] := ⟨_, rfl⟩
      rw [← hff] at s0 s1 hzk HA HB
      have c0 : wr.cell? ⟨b, o + k * 2, none⟩ = some (.string f.n) := by rw [hb.cell (p := ⟨b, o + k * 2, none⟩) hbw]; exact hc _ _ s0
      have c1 : wr.cell? ⟨b, o + k * 2 + 1, none⟩ = some (.string f.v) := by rw [hb.cell (p := ⟨b, o + k * 2 + 1, none⟩) hbw]; exact hc _ _ s1
      clear hc s0 s1 hff hall
      cases hok : (f.n.toList == name.toList)
      · have HAA := hide (HA.out hok)
        clear HA HB
        go_wp2_with fail
        exact ⟨⟨k + 1, by go_num, by omega, HAA.out, bo_alloc hb _⟩, by simp [intOf]; omega⟩
      · have hRf := HR.out.trans (HB.out hok)
        subst hRf
        clear HB HR HA
        go_wp2_with fail
        refine (clone f.v _ hzk).mono ?_; rintro x w1 ⟨rfl, hb1⟩
        go_wp2_with fail
        go_ret2
        exact ⟨rfl, bchain (bo_alloc hb _) hb1⟩
    · obtain rfl : k = L.length := by omega
      rw [List.take_length] at hall
      have hRf := HR.out.trans (first_none hall)
      subst hRf
      clear HR hall
      go_wp2_with fail
      go_ret2
      exact ⟨rfl, hb⟩
set_option maxHeartbeats 1000000 in
theorem specFieldOf (L : List Fd) (name : ByteArray) (v : Value) (w : World) (hr0 : Reads w v L.length 2 (fv L)) :
    Calls Try.prog 23 #[v, .string name] w fun x w' => x = .returned (.tuple #[.string (firstV name L).1, .bool (firstV name L).2]) ∧ Below w.heap.size w w' := by
  obtain ⟨hl, ad, cap, rfl, h1, h2, h3⟩ := hr0
  have H3 := hide h3
  clear h3
  unfold maxLen at h2
  obtain ⟨R, hR⟩ : ∃ R, R = firstV name L := ⟨_, rfl⟩
  rw [← hR]
  have HR := hide hR
  clear hR
  go_enter Try.func23, Try.ntmps23
  go_wp2_with fail
  go_loopw [6] (fun i wr => ∃ (k : Nat), i = .int .i64 k ∧ k ≤ L.length ∧ (∀ f ∈ L.take k, (f.n.toList == name.toList) = false) ∧ Below w.heap.size w wr) (fun i _ => L.length - (intOf i).toNat)
  case atStart => exact ⟨0, rfl, Nat.zero_le _, by simp, Below.refl _ _⟩
  case round =>
    obtain ⟨k, rfl, hk, hall, hb⟩ := hrel
    by_cases hlt : k < L.length
    · obtain ⟨b, o, rfl, hbw, hc⟩ := H3.out (by omega)
      obtain ⟨s0, s1⟩ := fv_get L k hlt
      have HA := hide (no_take_succ L k hlt hall)
      have HB := hide (first_at k hlt hall)
      obtain ⟨f, hff⟩ : ∃ f, f = L[k] := ⟨_, rfl⟩
      rw [← hff] at s0 s1 HA HB
      have c0 : wr.cell? ⟨b, o + k * 2, none⟩ = some (.string f.n) := by rw [hb.cell (p := ⟨b, o + k * 2, none⟩) hbw]; exact hc _ _ s0
      have c1 : wr.cell? ⟨b, o + k * 2 + 1, none⟩ = some (.string f.v) := by rw [hb.cell (p := ⟨b, o + k * 2 + 1, none⟩) hbw]; exact hc _ _ s1
      clear hc s0 s1 hff hall
      cases hok : (f.n.toList == name.toList)
      · have HAA := hide (HA.out hok)
        clear HA HB
        go_wp2_with fail
        exact ⟨⟨k + 1, by go_num, by omega, HAA.out, hb⟩, by simp [intOf]; omega⟩
      · have hRf := HR.out.trans (HB.out hok)
        subst hRf
        clear HB HR HA
        go_wp2_with fail
        go_ret2
        exact ⟨rfl, hb⟩
    · obtain rfl : k = L.length := by omega
      rw [List.take_length] at hall
      have hRf := HR.out.trans (first_none hall)
      subst hRf
      clear HR hall
      go_wp2_with fail
      go_ret2
      exact ⟨rfl, hb⟩
open Go.ChangeShapes Go.WideShapes Go.ChangeAt Go.Joins in
theorem open_FieldS {H : Type} {enc : TypeId × Value → H} {W : World} {base : Nat} {v : Value} {d : DataW H} {p : List MemPlace} (hv : Value.okWide Try.prog W .any base 47 v)
    (h : DataW.Trod enc Try.prog W 0 (fun _ => true) true 47 v d p) : ∃ L : List Fd, Reads W v L.length 2 (fv L) ∧ ∀ f ∈ L, f.fine := by
  obtain ⟨sa, sl, sc, rfl⟩ := okWide_slice Try.underlying47 hv
  obtain ⟨n1, hn1⟩ := h
  exact open_rows (α := Fd) ⟨⟨#[]⟩, ⟨#[]⟩⟩ Fd.cs 2 fcs_len Fd.fine Try.underlying47 (by kernel_rfl) (by decide) (fun cs n y hy => open_fcells hy) (v := .slice sa sl sc) (by simpa [Value.cells] using hn1)
end Go.Proofs.Ytejmnkabmajebaa
