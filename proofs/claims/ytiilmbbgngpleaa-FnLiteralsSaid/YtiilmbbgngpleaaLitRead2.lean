/- ReadLiteral: the walks of both sides. -/
import Derived.Test.YtiilmbbgngpleaaLitRead
import Derived.Handy
namespace Go.Proofs.Ytiilmbbgngpleaa
open Go.RowKit
set_option linter.unusedSimpArgs false
set_option linter.unusedVariables false

theorem unV_size (s : ByteArray) : (unV s).1.size ≤ 200 := by
  rw [unV_pack]
  cases rawV s with
  | none => exact Nat.zero_le _
  | some r =>
    simp only
    split
    · rename_i h; rw [size_sch]; exact h.1
    · exact Nat.zero_le _
theorem unV_no {s : ByteArray} (h : (unV s).2 = false) : unV s = (⟨#[]⟩, false) := by
  rw [unV_pack] at h ⊢
  cases hr : rawV s with
  | none => rfl
  | some r =>
    rw [hr] at h
    simp only at h ⊢
    split at h
    · cases h
    · rename_i q; rw [if_neg q]

set_option maxRecDepth 100000 in
set_option maxHeartbeats 2000000 in
theorem implReadL (s : ByteArray) (w : World) (hs : s.size ≤ maxLen) : Calls Try.prog 13 #[.string s] w fun e w' => e = .returned (.tuple #[.string (rlV s).1, .int .i64 (rlV s).2]) ∧ Below w.heap.size w w' := by
  have hs' := hs
  unfold maxLen at hs'
  rcases rd7 s with hrd | ⟨n, k, hrd, hk0, hk6, hks, hn⟩
  · rw [rlV_none hrd]
    have hin : inB (-1) 0 ((s.size : Int) - 0) = false := by simp [inB]
    go_enter Try.func13, Try.ntmps13
    go_wp2_with (first | (go_at_call 29; refine (implRead _ _ _ hs).mono ?_; rw [hrd]; rintro e w1 ⟨rfl, hb1⟩) | (go_at_call 30; refine (implWithin _ _ _ _).mono ?_; rintro e w' ⟨rfl, rfl⟩; try rw [hin]))
    go_ret2
    exact ⟨rfl, hb1⟩
  by_cases hle : (n : Int) ≤ (s.size : Int) - k
  · rw [rlV_at hrd, if_pos hle]
    have hin : inB (n : Int) 0 ((s.size : Int) - k) = true := by simp only [inB]; simp; omega
    have hkn : k + n ≤ s.size := by omega
    have hkn' : (k : Int) + n ≤ s.size := by omega
    have hkn2 : ((k : Int) + n).toNat = k + n := by omega
    have hsp : 0 < s.size := by omega
    have hsl : ∀ w : World, (Instr.slice 9 (.string s) (some (.int .i64 (k : Int))) (some (.int .i64 ((k : Int) + n))) none).run Try.prog w = .ok (.string (s.extract k (k + n))) w := by
      intro w
      rw [run_slice_string (P := Try.prog) w 9 s .i64 .i64 (k : Int) ((k : Int) + n) Try.underlying9 (by omega) (by omega) (by omega)]
      simp [hkn2]
    have hsl2 : ∀ w : World, (Instr.slice 9 (.string s) none (some (.int .i64 ((k : Int) + n))) none).run Try.prog w = .ok (.string (s.extract 0 (k + n))) w := by
      intro w
      rw [run_slice_string_to_if (P := Try.prog) w 9 s .i64 ((k : Int) + n) Try.underlying9, if_pos ⟨by omega, by omega⟩]
      simp [hkn2]
    have hxs : (s.extract k (k + n)).size ≤ maxLen := by rw [ba_extract_size hkn (by omega)]; unfold maxLen; omega
    have hwr : IntKind.i64.wrap ((k : Int) + n) = (k : Int) + n := by rw [IntKind.wrap_i64]; omega
    obtain ⟨T, hT⟩ : ∃ T, txV s n k = T := ⟨_, rfl⟩
    have hTs : T.size ≤ maxLen := by
      rw [← hT]; unfold txV; split
      · have := unV_size (s.extract k (k + n)); unfold maxLen; omega
      · exact hxs
    rw [hT]
    obtain ⟨A, hA⟩ : ∃ A, (if litV T = s.extract 0 (k + n) then (T, (k : Int) + n) else (⟨#[]⟩, 0)) = A := ⟨_, rfl⟩
    rw [hA]
    rcases hi7 hsp with ⟨hh, hb⟩ | ⟨hh, hb⟩
    · have hT2 : (unV (s.extract k (k + n))).1 = T := by rw [← hT]; unfold txV; rw [if_pos hh]
      go_enter Try.func13, Try.ntmps13
      go_wp2_with (first | (go_at_call 29; refine (implRead _ _ _ hs).mono ?_; rw [hrd]; rintro e w1 ⟨rfl, hb1⟩) | (go_at_call 30; refine (implWithin _ _ _ _).mono ?_; rw [hin]; rintro e w' ⟨rfl, rfl⟩) | (go_at_call 31; refine (implHigh _ _ _ hs).mono ?_; rw [hh]; rintro e w2 ⟨rfl, hb2⟩) | (go_at_call 20; refine (implUnpacked _ _ hxs).mono ?_; rw [hT2]; rintro e w3 ⟨rfl, hb3⟩))
      refine wp_region_any (by kernel_rfl) ?_
      change wpAny _ _ _ _ _ _ _ (World.drew _)
      refine wpAny_take (i := 0) (v := ?_) rfl (by kernel_rfl) (by kernel_rfl) (by kernel_rfl) (fun _ _ _ h => h) (Or.inl ⟨by rfl, ?_⟩) ?_; rotate_left; focus (intro w; go_simp; try with_reducible rfl)
      refine wpAny_take (i := 2) (v := ?_) rfl (by kernel_rfl) (by kernel_rfl) (by kernel_rfl) (fun _ _ _ h => h) (Or.inl ⟨by rfl, ?_⟩) ?_; rotate_left; focus (intro w; go_simp; try with_reducible rfl)
      refine wpAny_take (i := 3) (v := ?_) rfl (by kernel_rfl) (by kernel_rfl) (by kernel_rfl) (fun _ _ _ h => h) (Or.inl ⟨by rfl, ?_⟩) ?_; rotate_left; focus (intro w; go_simp; try with_reducible rfl)
      refine wpAny_take (i := 4) (v := ?_) rfl (by kernel_rfl) (by kernel_rfl) (by kernel_rfl) (fun _ _ _ h => h) (Or.inl ⟨by rfl, ?_⟩) ?_; rotate_left; focus (intro w; go_simp; try with_reducible rfl)
      refine wpAny_ready (rs := [1]) (by kernel_rfl) (by simp) ?_
      refine AllReady.cons rfl (fun K hK => ?_) AllReady.nil
      go_simp
      refine (implLiteral T _ hTs).mono ?_
      rintro e w4 ⟨rfl, hb4⟩
      refine hK _ _ ?_; clear hK K
      refine wpAny_take (i := 5) (v := ?_) rfl (by kernel_rfl) (by kernel_rfl) (by kernel_rfl) (fun _ _ _ h => h) (Or.inl ⟨by rfl, ?_⟩) ?_; rotate_left; focus (intro w; go_simp; try with_reducible rfl)
      refine wpAny_done (by kernel_rfl) ?_ _
      have hB4 : Below w.heap.size w w4 := bchain (bchain (bchain hb1 hb2) hb3).drew hb4
      by_cases hq : litV T = s.extract 0 (k + n)
      · have HQ : Hid (A = (T, (k : Int) + n)) := by show _ = _; rw [← hA, if_pos hq]
        have hT200 : T.size ≤ 200 := by
          by_cases q : 200 < T.size
          · rw [litV_long q] at hq
            have := congrArg ByteArray.size hq
            rw [ba_extract_size hkn (by omega)] at this
            have h0 : (⟨#[]⟩ : ByteArray).size = 0 := rfl
            rw [h0] at this
            omega
          · omega
        have hqb : (!(litV T).toList == (s.extract 0 (k + n)).toList) = false := by rw [hq]; simp
        clear hq hA
        go_wp2_with (go_at_call 32; refine (clone T _ (by omega)).mono ?_; rintro e w5 ⟨rfl, hb5⟩)
        · exact absurd (by assumption : (!(litV T).toList == (s.extract 0 (k + n)).toList) = true) (by rw [hqb]; decide)
        · go_ret2
          rw [HQ.out]
          exact ⟨rfl, bchain hB4 hb5⟩
      · have HQ : Hid (A = (⟨#[]⟩, 0)) := by show _ = _; rw [← hA, if_neg hq]
        have hqb : (!(litV T).toList == (s.extract 0 (k + n)).toList) = true := by rw [tl_ne hq]; rfl
        clear hq hA
        go_wp2_with fail
        · go_ret2
          rw [HQ.out]
          exact ⟨rfl, hB4⟩
        · exact absurd (by assumption : (!(litV T).toList == (s.extract 0 (k + n)).toList) = false) (by rw [hqb]; decide)
    · have hT2 : s.extract k (k + n) = T := by rw [← hT]; unfold txV; rw [if_neg (by omega)]
      rw [hT2] at hsl hxs
      go_enter Try.func13, Try.ntmps13
      go_wp2_with (first | (go_at_call 29; refine (implRead _ _ _ hs).mono ?_; rw [hrd]; rintro e w1 ⟨rfl, hb1⟩) | (go_at_call 30; refine (implWithin _ _ _ _).mono ?_; rw [hin]; rintro e w' ⟨rfl, rfl⟩) | (go_at_call 31; refine (implHigh _ _ _ hs).mono ?_; rw [hh]; rintro e w2 ⟨rfl, hb2⟩) | (go_at_call 20; refine (implUnpacked _ _ hxs).mono ?_; rw [hT2]; rintro e w3 ⟨rfl, hb3⟩))
      refine wp_region_any (by kernel_rfl) ?_
      change wpAny _ _ _ _ _ _ _ (World.drew _)
      refine wpAny_take (i := 0) (v := ?_) rfl (by kernel_rfl) (by kernel_rfl) (by kernel_rfl) (fun _ _ _ h => h) (Or.inl ⟨by rfl, ?_⟩) ?_; rotate_left; focus (intro w; go_simp; try with_reducible rfl)
      refine wpAny_take (i := 2) (v := ?_) rfl (by kernel_rfl) (by kernel_rfl) (by kernel_rfl) (fun _ _ _ h => h) (Or.inl ⟨by rfl, ?_⟩) ?_; rotate_left; focus (intro w; go_simp; try with_reducible rfl)
      refine wpAny_take (i := 3) (v := ?_) rfl (by kernel_rfl) (by kernel_rfl) (by kernel_rfl) (fun _ _ _ h => h) (Or.inl ⟨by rfl, ?_⟩) ?_; rotate_left; focus (intro w; go_simp; try with_reducible rfl)
      refine wpAny_take (i := 4) (v := ?_) rfl (by kernel_rfl) (by kernel_rfl) (by kernel_rfl) (fun _ _ _ h => h) (Or.inl ⟨by rfl, ?_⟩) ?_; rotate_left; focus (intro w; go_simp; try with_reducible rfl)
      refine wpAny_ready (rs := [1]) (by kernel_rfl) (by simp) ?_
      refine AllReady.cons rfl (fun K hK => ?_) AllReady.nil
      go_simp
      refine (implLiteral T _ hTs).mono ?_
      rintro e w4 ⟨rfl, hb4⟩
      refine hK _ _ ?_; clear hK K
      refine wpAny_take (i := 5) (v := ?_) rfl (by kernel_rfl) (by kernel_rfl) (by kernel_rfl) (fun _ _ _ h => h) (Or.inl ⟨by rfl, ?_⟩) ?_; rotate_left; focus (intro w; go_simp; try with_reducible rfl)
      refine wpAny_done (by kernel_rfl) ?_ _
      have hB4 : Below w.heap.size w w4 := bchain (bchain hb1 hb2).drew hb4
      by_cases hq : litV T = s.extract 0 (k + n)
      · have HQ : Hid (A = (T, (k : Int) + n)) := by show _ = _; rw [← hA, if_pos hq]
        have hT200 : T.size ≤ 200 := by
          by_cases q : 200 < T.size
          · rw [litV_long q] at hq
            have := congrArg ByteArray.size hq
            rw [ba_extract_size hkn (by omega)] at this
            have h0 : (⟨#[]⟩ : ByteArray).size = 0 := rfl
            rw [h0] at this
            omega
          · omega
        have hqb : (!(litV T).toList == (s.extract 0 (k + n)).toList) = false := by rw [hq]; simp
        clear hq hA
        go_wp2_with (go_at_call 32; refine (clone T _ (by omega)).mono ?_; rintro e w5 ⟨rfl, hb5⟩)
        · exact absurd (by assumption : (!(litV T).toList == (s.extract 0 (k + n)).toList) = true) (by rw [hqb]; decide)
        · go_ret2
          rw [HQ.out]
          exact ⟨rfl, bchain hB4 hb5⟩
      · have HQ : Hid (A = (⟨#[]⟩, 0)) := by show _ = _; rw [← hA, if_neg hq]
        have hqb : (!(litV T).toList == (s.extract 0 (k + n)).toList) = true := by rw [tl_ne hq]; rfl
        clear hq hA
        go_wp2_with fail
        · go_ret2
          rw [HQ.out]
          exact ⟨rfl, hB4⟩
        · exact absurd (by assumption : (!(litV T).toList == (s.extract 0 (k + n)).toList) = false) (by rw [hqb]; decide)
  · rw [rlV_at hrd, if_neg hle]
    have hin : inB (n : Int) 0 ((s.size : Int) - k) = false := by simp only [inB]; simp; omega
    go_enter Try.func13, Try.ntmps13
    go_wp2_with (first | (go_at_call 29; refine (implRead _ _ _ hs).mono ?_; rw [hrd]; rintro e w1 ⟨rfl, hb1⟩) | (go_at_call 30; refine (implWithin _ _ _ _).mono ?_; rw [hin]; rintro e w' ⟨rfl, rfl⟩))
    go_ret2
    exact ⟨rfl, hb1⟩
end Go.Proofs.Ytiilmbbgngpleaa
