/- ReadLiteral: the model's walk. -/
import Derived.Test.YtllaeakeaabiaaaGreatQLR
import Derived.Handy
namespace Go.Proofs.YtllaeakeaabiaaaGreat
open Go.RowKit
set_option maxRecDepth 100000
set_option linter.unusedSimpArgs false
set_option linter.unusedVariables false

set_option maxRecDepth 100000 in
set_option maxHeartbeats 4000000 in
theorem specReadL (s : ByteArray) (w : World) (hs : s.size ≤ maxLen) : Calls Tryz.prog 189 #[.string s] w fun e w' => e = .returned (.tuple #[.string (rlV s).1, .int .i64 (rlV s).2]) ∧ Below w.heap.size w w' := by
  have hs' := hs
  unfold maxLen at hs'
  rcases rd7 s with hrd | ⟨n, k, hrd, hk0, hk6, hks, hn⟩
  · rw [rlV_none hrd]
    go_enter Tryz.func189, Tryz.ntmps189
    go_wp2_with (go_at_call 188; refine (specRead _ _ _ hs).mono ?_; rw [hrd]; rintro e w1 ⟨rfl, hb1⟩)
    go_ret2
    exact ⟨rfl, hb1⟩
  have hkz : ((k : Int) == 0) = false := by simp; omega
  have hkz' : ¬ (k : Int) = 0 := by omega
  by_cases hle : (n : Int) ≤ (s.size : Int) - k
  · rw [rlV_at hrd, if_pos hle]
    have hkn : k + n ≤ s.size := by omega
    have hkn' : (k : Int) + n ≤ s.size := by omega
    have hkn2 : ((k : Int) + n).toNat = k + n := by omega
    have hle' : ¬ (s.size : Int) - k < n := by omega
    have hsp : 0 < s.size := by omega
    have hsl : ∀ w : World, (Instr.slice 9 (.string s) (some (.int .i64 (k : Int))) (some (.int .i64 ((k : Int) + n))) none).run Tryz.prog w = .ok (.string (s.extract k (k + n))) w := by
      intro w
      rw [run_slice_string (P := Tryz.prog) w 9 s .i64 .i64 (k : Int) ((k : Int) + n) Tryz.underlying9 (by omega) (by omega) (by omega)]
      simp [hkn2]
    have hxs : (s.extract k (k + n)).size ≤ maxLen := by rw [ba_extract_size hkn (by omega)]; unfold maxLen; omega
    obtain ⟨T, hT⟩ : ∃ T, txV s n k = T := ⟨_, rfl⟩
    have hTs : T.size ≤ maxLen := by
      rw [← hT]; unfold txV; split
      · have := unV_size (s.extract k (k + n)); unfold maxLen; omega
      · exact hxs
    rw [hT]
    obtain ⟨A, hA⟩ : ∃ A, (if litV T = s.extract 0 (k + n) then (T, (k : Int) + n) else (⟨#[]⟩, 0)) = A := ⟨_, rfl⟩
    rw [hA]
    rcases hi7 hsp with ⟨hh, hb⟩ | ⟨hh, hb⟩
    · have hT2 : (unV (s.extract k (k + n))).1 = T := by rw [← hT]; unfold txV; rw [if_pos hh]
      cases hok : (unV (s.extract k (k + n))).2
      · have HQ : Hid (A = (⟨#[]⟩, 0)) := by
          show _ = _
          have hTe : T = ⟨#[]⟩ := by rw [← hT2, unV_no hok]
          rw [← hA, hTe, litV_empty, if_neg (ne_zero_head hsp hb (by omega))]
        clear hA
        go_enter Tryz.func189, Tryz.ntmps189
        go_wp2_with (first | (go_at_call 188; refine (specRead _ _ _ hs).mono ?_; rw [hrd]; rintro e w1 ⟨rfl, hb1⟩) | (go_at_call 223; refine (specUnpacked _ _ hxs).mono ?_; rw [hok]; rintro e w3 ⟨rfl, hb3⟩))
        go_ret2
        rw [HQ.out]
        exact ⟨rfl, bchain hb1 hb3⟩
      by_cases hlong : 200 < T.size
      · have HQ : Hid (A = (⟨#[]⟩, 0)) := by
          show _ = _
          rw [← hA, litV_long hlong, if_neg]
          intro q
          have := congrArg ByteArray.size q
          rw [ba_extract_size hkn (by omega)] at this
          have h0 : (⟨#[]⟩ : ByteArray).size = 0 := rfl
          rw [h0] at this
          omega
        have hlit : litV T = ⟨#[]⟩ := litV_long hlong
        clear hA
        go_enter Tryz.func189, Tryz.ntmps189
        go_wp2_with (first | (go_at_call 188; refine (specRead _ _ _ hs).mono ?_; rw [hrd]; rintro e w1 ⟨rfl, hb1⟩) | (go_at_call 223; refine (specUnpacked _ _ hxs).mono ?_; rw [hT2, hok]; rintro e w3 ⟨rfl, hb3⟩) | (go_at_call 193; refine (specLiteral _ _ hTs).mono ?_; rw [hlit]; rintro e w4 ⟨rfl, hb4⟩))
        go_ret2
        rw [HQ.out]
        exact ⟨rfl, bchain (bchain hb1 hb3) hb4⟩
      have h200 : T.size ≤ 200 := by omega
      have hpos := lit_pos h200
      obtain ⟨r, hlit⟩ : ∃ r, litV T = r := ⟨_, rfl⟩
      rw [hlit] at hpos
      have hne := list_ne hpos
      have hne' := list_isEmpty hpos
      by_cases hbig : s.size < r.size
      · have HQ : Hid (A = (⟨#[]⟩, 0)) := by
          show _ = _
          rw [← hA, hlit, if_neg]
          intro q
          have := congrArg ByteArray.size q
          rw [ba_extract_size hkn (by omega)] at this
          omega
        have hbig' : (s.size : Int) < r.size := by omega
        clear hA
        go_enter Tryz.func189, Tryz.ntmps189
        go_wp2_with (first | (go_at_call 188; refine (specRead _ _ _ hs).mono ?_; rw [hrd]; rintro e w1 ⟨rfl, hb1⟩) | (go_at_call 223; refine (specUnpacked _ _ hxs).mono ?_; rw [hT2, hok]; rintro e w3 ⟨rfl, hb3⟩) | (go_at_call 193; refine (specLiteral _ _ hTs).mono ?_; rw [hlit]; rintro e w4 ⟨rfl, hb4⟩))
        go_ret2
        rw [HQ.out]
        exact ⟨rfl, bchain (bchain hb1 hb3) hb4⟩
      have hbig' : ¬ (s.size : Int) < r.size := by omega
      have hsl3 : ∀ w : World, (Instr.slice 9 (.string s) none (some (.int .i64 (r.size : Int))) none).run Tryz.prog w = .ok (.string (s.extract 0 r.size)) w := by
        intro w
        rw [run_slice_string_to_if (P := Tryz.prog) w 9 s .i64 (r.size : Int) Tryz.underlying9, if_pos ⟨by omega, by omega⟩]
        simp
      by_cases hq : s.extract 0 r.size = r
      · have hrn : r.size = k + n := by
          have := lit_head hrd h200 (by rw [hlit]; omega) (by rw [hlit]; exact hq)
          rw [hlit] at this; exact this
        have HQ : Hid (A = (T, (r.size : Int))) := by
          show _ = _
          rw [← hA, hlit, if_pos (by rw [← hrn]; exact hq.symm), hrn]; simp
        have hqb : ((s.extract 0 r.size).toList == r.toList) = true := by rw [hq]; simp
        clear hA hrn hq
        go_enter Tryz.func189, Tryz.ntmps189
        go_wp2_with (first | (go_at_call 188; refine (specRead _ _ _ hs).mono ?_; rw [hrd]; rintro e w1 ⟨rfl, hb1⟩) | (go_at_call 223; refine (specUnpacked _ _ hxs).mono ?_; rw [hT2, hok]; rintro e w3 ⟨rfl, hb3⟩) | (go_at_call 193; refine (specLiteral _ _ hTs).mono ?_; rw [hlit]; rintro e w4 ⟨rfl, hb4⟩))
        go_ret2
        rw [HQ.out]
        exact ⟨rfl, bchain (bchain hb1 hb3) hb4⟩
      · have HQ : Hid (A = (⟨#[]⟩, 0)) := by
          show _ = _
          rw [← hA, hlit, if_neg]
          intro q
          have h1 := congrArg ByteArray.size q
          rw [ba_extract_size hkn (by omega)] at h1
          exact hq (by rw [show r.size = k + n from by omega]; exact q.symm)
        have hqb := tl_ne hq
        clear hA hq
        go_enter Tryz.func189, Tryz.ntmps189
        go_wp2_with (first | (go_at_call 188; refine (specRead _ _ _ hs).mono ?_; rw [hrd]; rintro e w1 ⟨rfl, hb1⟩) | (go_at_call 223; refine (specUnpacked _ _ hxs).mono ?_; rw [hT2, hok]; rintro e w3 ⟨rfl, hb3⟩) | (go_at_call 193; refine (specLiteral _ _ hTs).mono ?_; rw [hlit]; rintro e w4 ⟨rfl, hb4⟩))
        go_ret2
        rw [HQ.out]
        exact ⟨rfl, bchain (bchain hb1 hb3) hb4⟩
    · have hT2 : s.extract k (k + n) = T := by rw [← hT]; unfold txV; rw [if_neg (by omega)]
      rw [hT2] at hsl
      by_cases hlong : 200 < T.size
      · have HQ : Hid (A = (⟨#[]⟩, 0)) := by
          show _ = _
          rw [← hA, litV_long hlong, if_neg]
          intro q
          have := congrArg ByteArray.size q
          rw [ba_extract_size hkn (by omega)] at this
          have h0 : (⟨#[]⟩ : ByteArray).size = 0 := rfl
          rw [h0] at this
          omega
        have hlit : litV T = ⟨#[]⟩ := litV_long hlong
        clear hA
        go_enter Tryz.func189, Tryz.ntmps189
        go_wp2_with (first | (go_at_call 188; refine (specRead _ _ _ hs).mono ?_; rw [hrd]; rintro e w1 ⟨rfl, hb1⟩) | (go_at_call 193; refine (specLiteral _ _ hTs).mono ?_; rw [hlit]; rintro e w4 ⟨rfl, hb4⟩))
        go_ret2
        rw [HQ.out]
        exact ⟨rfl, bchain hb1 hb4⟩
      have h200 : T.size ≤ 200 := by omega
      have hpos := lit_pos h200
      obtain ⟨r, hlit⟩ : ∃ r, litV T = r := ⟨_, rfl⟩
      rw [hlit] at hpos
      have hne := list_ne hpos
      have hne' := list_isEmpty hpos
      by_cases hbig : s.size < r.size
      · have HQ : Hid (A = (⟨#[]⟩, 0)) := by
          show _ = _
          rw [← hA, hlit, if_neg]
          intro q
          have := congrArg ByteArray.size q
          rw [ba_extract_size hkn (by omega)] at this
          omega
        have hbig' : (s.size : Int) < r.size := by omega
        clear hA
        go_enter Tryz.func189, Tryz.ntmps189
        go_wp2_with (first | (go_at_call 188; refine (specRead _ _ _ hs).mono ?_; rw [hrd]; rintro e w1 ⟨rfl, hb1⟩) | (go_at_call 193; refine (specLiteral _ _ hTs).mono ?_; rw [hlit]; rintro e w4 ⟨rfl, hb4⟩))
        go_ret2
        rw [HQ.out]
        exact ⟨rfl, bchain hb1 hb4⟩
      have hbig' : ¬ (s.size : Int) < r.size := by omega
      have hsl3 : ∀ w : World, (Instr.slice 9 (.string s) none (some (.int .i64 (r.size : Int))) none).run Tryz.prog w = .ok (.string (s.extract 0 r.size)) w := by
        intro w
        rw [run_slice_string_to_if (P := Tryz.prog) w 9 s .i64 (r.size : Int) Tryz.underlying9, if_pos ⟨by omega, by omega⟩]
        simp
      by_cases hq : s.extract 0 r.size = r
      · have hrn : r.size = k + n := by
          have := lit_head hrd h200 (by rw [hlit]; omega) (by rw [hlit]; exact hq)
          rw [hlit] at this; exact this
        have HQ : Hid (A = (T, (r.size : Int))) := by
          show _ = _
          rw [← hA, hlit, if_pos (by rw [← hrn]; exact hq.symm), hrn]; simp
        have hqb : ((s.extract 0 r.size).toList == r.toList) = true := by rw [hq]; simp
        clear hA hrn hq
        go_enter Tryz.func189, Tryz.ntmps189
        go_wp2_with (first | (go_at_call 188; refine (specRead _ _ _ hs).mono ?_; rw [hrd]; rintro e w1 ⟨rfl, hb1⟩) | (go_at_call 193; refine (specLiteral _ _ hTs).mono ?_; rw [hlit]; rintro e w4 ⟨rfl, hb4⟩))
        go_ret2
        rw [HQ.out]
        exact ⟨rfl, bchain hb1 hb4⟩
      · have HQ : Hid (A = (⟨#[]⟩, 0)) := by
          show _ = _
          rw [← hA, hlit, if_neg]
          intro q
          have h1 := congrArg ByteArray.size q
          rw [ba_extract_size hkn (by omega)] at h1
          exact hq (by rw [show r.size = k + n from by omega]; exact q.symm)
        have hqb := tl_ne hq
        clear hA hq
        go_enter Tryz.func189, Tryz.ntmps189
        go_wp2_with (first | (go_at_call 188; refine (specRead _ _ _ hs).mono ?_; rw [hrd]; rintro e w1 ⟨rfl, hb1⟩) | (go_at_call 193; refine (specLiteral _ _ hTs).mono ?_; rw [hlit]; rintro e w4 ⟨rfl, hb4⟩))
        go_ret2
        rw [HQ.out]
        exact ⟨rfl, bchain hb1 hb4⟩
  · rw [rlV_at hrd, if_neg hle]
    have hle' : (s.size : Int) - k < n := by omega
    go_enter Tryz.func189, Tryz.ntmps189
    go_wp2_with (go_at_call 188; refine (specRead _ _ _ hs).mono ?_; rw [hrd]; rintro e w1 ⟨rfl, hb1⟩)
    go_ret2
    exact ⟨rfl, hb1⟩
end Go.Proofs.YtllaeakeaabiaaaGreat
