/- Several small texts of one level, one behind the other. -/
import Derived.Test.YtllaeakeaabiaaaGreatQG15
import Derived.Test.YtllaeakeaabiaaaGreatQG8
import Derived.Test.YtllaeakeaabiaaaGreatQG7
import Derived.Test.YtllaeakeaabiaaaGreatQG2
import Derived.Handy
import Derived.Test.YtllaeakeaabiaaaGreatQG3
/- ReadLiteral: in plain words, and of both sides. -/
namespace Go.Proofs.YtllaeakeaabiaaaGreat
open Go.RowKit
set_option maxRecDepth 100000
set_option linter.unusedSimpArgs false
set_option linter.unusedVariables false

theorem rd7 (s : ByteArray) : rdV s 7 = (-1, 0) ∨ ∃ n k : Nat, rdV s 7 = ((n : Int), (k : Int)) ∧ 0 < k ∧ k ≤ 6 ∧ k ≤ s.size ∧ n ≤ 268435456 := by
  rcases rdV_pos (s := s) (b := 7) (by decide) with h | ⟨h1, h2, h3⟩
  · exact .inl h
  · by_cases hp : 0 < (rdV s 7).2
    · obtain ⟨_, hw, h4, h5⟩ := law_written hp
      have hn : 0 ≤ (rdV s 7).1 ∧ (rdV s 7).1 ≤ 268435456 := by
        cases ho : okN (rdV s 7).1 7
        · rw [wdV_no ho] at hw; omega
        · have := okN_true ho; omega
      refine .inr ⟨(rdV s 7).1.toNat, (rdV s 7).2.toNat, ?_, by omega, by omega, by omega, by omega⟩
      rw [Int.toNat_of_nonneg hn.1, Int.toNat_of_nonneg (by omega)]
    · have h0 : (ptV s 7).length = 0 := by rw [h3] at hp; simp only at hp; omega
      have := List.length_eq_zero_iff.1 h0
      rw [this] at h1
      cases h1

/-- The text that is read, ahead of the look at its literal. -/
def txV (s : ByteArray) (n k : Nat) : ByteArray := if hiV s 7 = 128 then (unV (s.extract k (k + n))).1 else s.extract k (k + n)
/-- What ReadLiteral answers. -/
def rlV (s : ByteArray) : ByteArray × Int :=
  if 0 ≤ (rdV s 7).1 ∧ (rdV s 7).1 ≤ (s.size : Int) - (rdV s 7).2 then
    (if litV (txV s (rdV s 7).1.toNat (rdV s 7).2.toNat) = s.extract 0 ((rdV s 7).2.toNat + (rdV s 7).1.toNat) then (txV s (rdV s 7).1.toNat (rdV s 7).2.toNat, (rdV s 7).2 + (rdV s 7).1) else (⟨#[]⟩, 0))
  else (⟨#[]⟩, 0)
theorem rlV_none {s : ByteArray} (h : rdV s 7 = (-1, 0)) : rlV s = (⟨#[]⟩, 0) := by unfold rlV; rw [h]; rfl
theorem rlV_at {s : ByteArray} {n k : Nat} (h : rdV s 7 = ((n : Int), (k : Int))) : rlV s = if (n : Int) ≤ (s.size : Int) - k then (if litV (txV s n k) = s.extract 0 (k + n) then (txV s n k, (k : Int) + n) else (⟨#[]⟩, 0)) else (⟨#[]⟩, 0) := by
  unfold rlV; rw [h]; simp only [Int.toNat_natCast]
  by_cases e : (n : Int) ≤ (s.size : Int) - k
  · rw [if_pos ⟨by omega, e⟩, if_pos e]
  · rw [if_neg (fun q => e q.2), if_neg e]

theorem litV_long {t : ByteArray} (h : 200 < t.size) : litV t = ⟨#[]⟩ := by simp [litV, h]
theorem lit_form {t : ByteArray} (h : t.size ≤ 200) : ∃ (m : Nat) (x : Int) (p : ByteArray), litV t = preV (m : Int) 7 x ++ p ∧ p.size = m ∧ m ≤ 200 ∧ (x = 0 ∨ x = 128) ∧ okP (m : Int) 7 x = true ∧ ((x = 128 ∧ (l4V t) = (p, true) ∧ p.size < t.size) ∨ (x = 0 ∧ p = t)) := by
  unfold litV
  rw [if_neg (by omega)]
  by_cases c : (l4V t).2 = true ∧ (l4V t).1.size < t.size
  · rw [if_pos c]
    exact ⟨(l4V t).1.size, 128, (l4V t).1, rfl, rfl, by omega, .inr rfl, okP7 (by omega) (by omega) (.inr rfl), .inl ⟨rfl, by rw [← c.1], c.2⟩⟩
  · rw [if_neg c]
    exact ⟨t.size, 0, t, rfl, rfl, h, .inl rfl, okP7 (by omega) (by omega) (.inl rfl), .inr ⟨rfl, rfl⟩⟩
/-- A literal is read off whatever it stands ahead of: its length and how many bytes tell it. -/
theorem lit_rd {t : ByteArray} (h : t.size ≤ 200) (rest : ByteArray) : ∃ m k : Nat, rdV (litV t ++ rest) 7 = ((m : Int), (k : Int)) ∧ k + m = (litV t).size ∧ 0 < k := by
  obtain ⟨m, x, p, e, hp, hm, hx, ho, _⟩ := lit_form h
  refine ⟨m, (preV (m : Int) 7 x).size, ?_, ?_, (law_size ho).1⟩
  · rw [e, ba_append_assoc]; exact law_read ho _
  · rw [e, ba_size_append, hp]
theorem lit_pos {t : ByteArray} (h : t.size ≤ 200) : 0 < (litV t).size := by
  obtain ⟨m, k, _, h1, h2⟩ := lit_rd h ⟨#[]⟩; omega

/-- If a text begins with a literal then its number and its bytes are those of that literal. -/
theorem lit_head {s t : ByteArray} {n k : Nat} (hrd : rdV s 7 = ((n : Int), (k : Int))) (ht : t.size ≤ 200) (hl : (litV t).size ≤ s.size) (he : s.extract 0 (litV t).size = litV t) : (litV t).size = k + n := by
  have hs := ba_split s _ hl
  rw [he] at hs
  obtain ⟨m, k', h1, h2, h3⟩ := lit_rd ht (s.extract (litV t).size s.size)
  rw [hs, hrd] at h1
  simp only [Prod.mk.injEq, Int.natCast_inj] at h1
  omega

theorem hi7 {s : ByteArray} (h : 0 < s.size) : hiV s 7 = 128 ∧ 128 ≤ (s[0].toNat : Int) ∨ hiV s 7 = 0 ∧ (s[0].toNat : Int) < 128 := by
  rw [hiV_yes h (by omega) (by omega)]
  have := s[0].toNat_lt
  have e : pw 7 = 128 := rfl
  rw [e]
  omega
theorem litV_empty : litV ⟨#[]⟩ = ⟨#[0]⟩ := by decide +kernel
theorem ne_zero_head {s : ByteArray} {e : Nat} (h : 0 < s.size) (h128 : 128 ≤ (s[0].toNat : Int)) (he : 0 < e) : ¬ (⟨#[0]⟩ : ByteArray) = s.extract 0 e := by
  intro q
  have := congrArg bys q
  rw [bys_extract, bys_cons h] at this
  obtain ⟨e, rfl⟩ : ∃ e', e = e' + 1 := ⟨e - 1, by omega⟩
  have h2 : (bys (⟨#[0]⟩ : ByteArray)) = [0] := rfl
  rw [h2] at this
  simp at this
  omega
end Go.Proofs.YtllaeakeaabiaaaGreat
/- ReadLiteral: the walks of both sides. -/
namespace Go.Proofs.YtllaeakeaabiaaaGreat
open Go.RowKit
set_option maxRecDepth 100000
set_option linter.unusedSimpArgs false
set_option linter.unusedVariables false

theorem unV_size (s : ByteArray) : (unV s).1.size ≤ 200 := by
  rw [unV_pack]
  cases rawV s with
  | none => exact Nat.zero_le _
  | some r =>
    simp only
    split
    · rename_i h; rw [size_sch]; exact h.1
    · exact Nat.zero_le _
theorem unV_no {s : ByteArray} (h : (unV s).2 = false) : unV s = (⟨#[]⟩, false) := by
  rw [unV_pack] at h ⊢
  cases hr : rawV s with
  | none => rfl
  | some r =>
    rw [hr] at h
    simp only at h ⊢
    split at h
    · cases h
    · rename_i q; rw [if_neg q]

set_option maxRecDepth 100000 in
set_option maxHeartbeats 2000000 in
theorem implReadL (s : ByteArray) (w : World) (hs : s.size ≤ maxLen) : Calls Tryz.prog 233 #[.string s] w fun e w' => e = .returned (.tuple #[.string (rlV s).1, .int .i64 (rlV s).2]) ∧ Below w.heap.size w w' := by
  have hs' := hs
  unfold maxLen at hs'
  rcases rd7 s with hrd | ⟨n, k, hrd, hk0, hk6, hks, hn⟩
  · rw [rlV_none hrd]
    have hin : inB (-1) 0 ((s.size : Int) - 0) = false := by simp [inB]
    go_enter Tryz.func233, Tryz.ntmps233
    go_wp2_with (first | (go_at_call 232; refine (implRead _ _ _ hs).mono ?_; rw [hrd]; rintro e w1 ⟨rfl, hb1⟩) | (go_at_call 126; refine (implWithin _ _ _ _).mono ?_; rintro e w' ⟨rfl, rfl⟩; try rw [hin]))
    go_ret2
    exact ⟨rfl, hb1⟩
  by_cases hle : (n : Int) ≤ (s.size : Int) - k
  · rw [rlV_at hrd, if_pos hle]
    have hin : inB (n : Int) 0 ((s.size : Int) - k) = true := by simp only [inB]; simp; omega
    have hkn : k + n ≤ s.size := by omega
    have hkn' : (k : Int) + n ≤ s.size := by omega
    have hkn2 : ((k : Int) + n).toNat = k + n := by omega
    have hsp : 0 < s.size := by omega
    have hsl : ∀ w : World, (Instr.slice 9 (.string s) (some (.int .i64 (k : Int))) (some (.int .i64 ((k : Int) + n))) none).run Tryz.prog w = .ok (.string (s.extract k (k + n))) w := by
      intro w
      rw [run_slice_string (P := Tryz.prog) w 9 s .i64 .i64 (k : Int) ((k : Int) + n) Tryz.underlying9 (by omega) (by omega) (by omega)]
      simp [hkn2]
    have hsl2 : ∀ w : World, (Instr.slice 9 (.string s) none (some (.int .i64 ((k : Int) + n))) none).run Tryz.prog w = .ok (.string (s.extract 0 (k + n))) w := by
      intro w
      rw [run_slice_string_to_if (P := Tryz.prog) w 9 s .i64 ((k : Int) + n) Tryz.underlying9, if_pos ⟨by omega, by omega⟩]
      simp [hkn2]
    have hxs : (s.extract k (k + n)).size ≤ maxLen := by rw [ba_extract_size hkn (by omega)]; unfold maxLen; omega
    have hwr : IntKind.i64.wrap ((k : Int) + n) = (k : Int) + n := by rw [IntKind.wrap_i64]; omega
    obtain ⟨T, hT⟩ : ∃ T, txV s n k = T := ⟨_, rfl⟩
    have hTs : T.size ≤ maxLen := by
      rw [← hT]; unfold txV; split
      · have := unV_size (s.extract k (k + n)); unfold maxLen; omega
      · exact hxs
    rw [hT]
    obtain ⟨A, hA⟩ : ∃ A, (if litV T = s.extract 0 (k + n) then (T, (k : Int) + n) else (⟨#[]⟩, 0)) = A := ⟨_, rfl⟩
    rw [hA]
    rcases hi7 hsp with ⟨hh, hb⟩ | ⟨hh, hb⟩
    · have hT2 : (unV (s.extract k (k + n))).1 = T := by rw [← hT]; unfold txV; rw [if_pos hh]
      go_enter Tryz.func233, Tryz.ntmps233
      go_wp2_with (first | (go_at_call 232; refine (implRead _ _ _ hs).mono ?_; rw [hrd]; rintro e w1 ⟨rfl, hb1⟩) | (go_at_call 126; refine (implWithin _ _ _ _).mono ?_; rw [hin]; rintro e w' ⟨rfl, rfl⟩) | (go_at_call 231; refine (implHigh _ _ _ hs).mono ?_; rw [hh]; rintro e w2 ⟨rfl, hb2⟩) | (go_at_call 251; refine (implUnpacked _ _ hxs).mono ?_; rw [hT2]; rintro e w3 ⟨rfl, hb3⟩))
      refine wp_region_any (by kernel_rfl) ?_
      change wpAny _ _ _ _ _ _ _ (World.drew _)
      refine wpAny_take (i := 0) (v := ?_) rfl (by kernel_rfl) (by kernel_rfl) (by kernel_rfl) (fun _ _ _ h => h) (Or.inl ⟨by rfl, ?_⟩) ?_; rotate_left; focus (intro w; go_simp; try with_reducible rfl)
      refine wpAny_take (i := 2) (v := ?_) rfl (by kernel_rfl) (by kernel_rfl) (by kernel_rfl) (fun _ _ _ h => h) (Or.inl ⟨by rfl, ?_⟩) ?_; rotate_left; focus (intro w; go_simp; try with_reducible rfl)
      refine wpAny_take (i := 3) (v := ?_) rfl (by kernel_rfl) (by kernel_rfl) (by kernel_rfl) (fun _ _ _ h => h) (Or.inl ⟨by rfl, ?_⟩) ?_; rotate_left; focus (intro w; go_simp; try with_reducible rfl)
      refine wpAny_take (i := 4) (v := ?_) rfl (by kernel_rfl) (by kernel_rfl) (by kernel_rfl) (fun _ _ _ h => h) (Or.inl ⟨by rfl, ?_⟩) ?_; rotate_left; focus (intro w; go_simp; try with_reducible rfl)
      refine wpAny_ready (rs := [1]) (by kernel_rfl) (by simp) ?_
      refine AllReady.cons rfl (fun K hK => ?_) AllReady.nil
      go_simp
      refine (implLiteral T _ hTs).mono ?_
      rintro e w4 ⟨rfl, hb4⟩
      refine hK _ _ ?_; clear hK K
      refine wpAny_take (i := 5) (v := ?_) rfl (by kernel_rfl) (by kernel_rfl) (by kernel_rfl) (fun _ _ _ h => h) (Or.inl ⟨by rfl, ?_⟩) ?_; rotate_left; focus (intro w; go_simp; try with_reducible rfl)
      refine wpAny_done (by kernel_rfl) ?_ _
      have hB4 : Below w.heap.size w w4 := bchain (bchain (bchain hb1 hb2) hb3).drew hb4
      by_cases hq : litV T = s.extract 0 (k + n)
      · have HQ : Hid (A = (T, (k : Int) + n)) := by show _ = _; rw [← hA, if_pos hq]
        have hT200 : T.size ≤ 200 := by
          by_cases q : 200 < T.size
          · rw [litV_long q] at hq
            have := congrArg ByteArray.size hq
            rw [ba_extract_size hkn (by omega)] at this
            have h0 : (⟨#[]⟩ : ByteArray).size = 0 := rfl
            rw [h0] at this
            omega
          · omega
        have hqb : (!(litV T).toList == (s.extract 0 (k + n)).toList) = false := by rw [hq]; simp
        clear hq hA
        go_wp2_with (go_at_call 136; refine (clone T _ (by omega)).mono ?_; rintro e w5 ⟨rfl, hb5⟩)
        · exact absurd (by assumption : (!(litV T).toList == (s.extract 0 (k + n)).toList) = true) (by rw [hqb]; decide)
        · go_ret2
          rw [HQ.out]
          exact ⟨rfl, bchain hB4 hb5⟩
      · have HQ : Hid (A = (⟨#[]⟩, 0)) := by show _ = _; rw [← hA, if_neg hq]
        have hqb : (!(litV T).toList == (s.extract 0 (k + n)).toList) = true := by rw [tl_ne hq]; rfl
        clear hq hA
        go_wp2_with fail
        · go_ret2
          rw [HQ.out]
          exact ⟨rfl, hB4⟩
        · exact absurd (by assumption : (!(litV T).toList == (s.extract 0 (k + n)).toList) = false) (by rw [hqb]; decide)
    · have hT2 : s.extract k (k + n) = T := by rw [← hT]; unfold txV; rw [if_neg (by omega)]
      rw [hT2] at hsl hxs
      go_enter Tryz.func233, Tryz.ntmps233
      go_wp2_with (first | (go_at_call 232; refine (implRead _ _ _ hs).mono ?_; rw [hrd]; rintro e w1 ⟨rfl, hb1⟩) | (go_at_call 126; refine (implWithin _ _ _ _).mono ?_; rw [hin]; rintro e w' ⟨rfl, rfl⟩) | (go_at_call 231; refine (implHigh _ _ _ hs).mono ?_; rw [hh]; rintro e w2 ⟨rfl, hb2⟩) | (go_at_call 251; refine (implUnpacked _ _ hxs).mono ?_; rw [hT2]; rintro e w3 ⟨rfl, hb3⟩))
      refine wp_region_any (by kernel_rfl) ?_
      change wpAny _ _ _ _ _ _ _ (World.drew _)
      refine wpAny_take (i := 0) (v := ?_) rfl (by kernel_rfl) (by kernel_rfl) (by kernel_rfl) (fun _ _ _ h => h) (Or.inl ⟨by rfl, ?_⟩) ?_; rotate_left; focus (intro w; go_simp; try with_reducible rfl)
      refine wpAny_take (i := 2) (v := ?_) rfl (by kernel_rfl) (by kernel_rfl) (by kernel_rfl) (fun _ _ _ h => h) (Or.inl ⟨by rfl, ?_⟩) ?_; rotate_left; focus (intro w; go_simp; try with_reducible rfl)
      refine wpAny_take (i := 3) (v := ?_) rfl (by kernel_rfl) (by kernel_rfl) (by kernel_rfl) (fun _ _ _ h => h) (Or.inl ⟨by rfl, ?_⟩) ?_; rotate_left; focus (intro w; go_simp; try with_reducible rfl)
      refine wpAny_take (i := 4) (v := ?_) rfl (by kernel_rfl) (by kernel_rfl) (by kernel_rfl) (fun _ _ _ h => h) (Or.inl ⟨by rfl, ?_⟩) ?_; rotate_left; focus (intro w; go_simp; try with_reducible rfl)
      refine wpAny_ready (rs := [1]) (by kernel_rfl) (by simp) ?_
      refine AllReady.cons rfl (fun K hK => ?_) AllReady.nil
      go_simp
      refine (implLiteral T _ hTs).mono ?_
      rintro e w4 ⟨rfl, hb4⟩
      refine hK _ _ ?_; clear hK K
      refine wpAny_take (i := 5) (v := ?_) rfl (by kernel_rfl) (by kernel_rfl) (by kernel_rfl) (fun _ _ _ h => h) (Or.inl ⟨by rfl, ?_⟩) ?_; rotate_left; focus (intro w; go_simp; try with_reducible rfl)
      refine wpAny_done (by kernel_rfl) ?_ _
      have hB4 : Below w.heap.size w w4 := bchain (bchain hb1 hb2).drew hb4
      by_cases hq : litV T = s.extract 0 (k + n)
      · have HQ : Hid (A = (T, (k : Int) + n)) := by show _ = _; rw [← hA, if_pos hq]
        have hT200 : T.size ≤ 200 := by
          by_cases q : 200 < T.size
          · rw [litV_long q] at hq
            have := congrArg ByteArray.size hq
            rw [ba_extract_size hkn (by omega)] at this
            have h0 : (⟨#[]⟩ : ByteArray).size = 0 := rfl
            rw [h0] at this
            omega
          · omega
        have hqb : (!(litV T).toList == (s.extract 0 (k + n)).toList) = false := by rw [hq]; simp
        clear hq hA
        go_wp2_with (go_at_call 136; refine (clone T _ (by omega)).mono ?_; rintro e w5 ⟨rfl, hb5⟩)
        · exact absurd (by assumption : (!(litV T).toList == (s.extract 0 (k + n)).toList) = true) (by rw [hqb]; decide)
        · go_ret2
          rw [HQ.out]
          exact ⟨rfl, bchain hB4 hb5⟩
      · have HQ : Hid (A = (⟨#[]⟩, 0)) := by show _ = _; rw [← hA, if_neg hq]
        have hqb : (!(litV T).toList == (s.extract 0 (k + n)).toList) = true := by rw [tl_ne hq]; rfl
        clear hq hA
        go_wp2_with fail
        · go_ret2
          rw [HQ.out]
          exact ⟨rfl, hB4⟩
        · exact absurd (by assumption : (!(litV T).toList == (s.extract 0 (k + n)).toList) = false) (by rw [hqb]; decide)
  · rw [rlV_at hrd, if_neg hle]
    have hin : inB (n : Int) 0 ((s.size : Int) - k) = false := by simp only [inB]; simp; omega
    go_enter Tryz.func233, Tryz.ntmps233
    go_wp2_with (first | (go_at_call 232; refine (implRead _ _ _ hs).mono ?_; rw [hrd]; rintro e w1 ⟨rfl, hb1⟩) | (go_at_call 126; refine (implWithin _ _ _ _).mono ?_; rw [hin]; rintro e w' ⟨rfl, rfl⟩))
    go_ret2
    exact ⟨rfl, hb1⟩
end Go.Proofs.YtllaeakeaabiaaaGreat
