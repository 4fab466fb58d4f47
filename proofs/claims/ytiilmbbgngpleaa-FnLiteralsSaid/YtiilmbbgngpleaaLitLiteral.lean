/- Literal of both sides. -/
import Derived.Test.YtiilmbbgngpleaaLitUnpack2
import Derived.Handy
namespace Go.Proofs.Ytiilmbbgngpleaa
open Go.RowKit
set_option linter.unusedSimpArgs false
set_option linter.unusedVariables false

/-- What Literal answers. -/
def litV (s : ByteArray) : ByteArray :=
  if 200 < s.size then ⟨#[]⟩ else if (l4V s).2 = true ∧ (l4V s).1.size < s.size then preV ((l4V s).1.size : Int) 7 128 ++ (l4V s).1 else preV (s.size : Int) 7 0 ++ s

theorem okP7 {n h : Int} (h0 : 0 ≤ n) (h1 : n ≤ 268435456) (hh : h = 0 ∨ h = 128) : okP n 7 h = true := by
  rcases hh with rfl | rfl <;> simp [okP, okN, inB, pw, h0, h1]
theorem preV7 {n h : Int} (h0 : 0 ≤ n) (h1 : n ≤ 268435456) (hh : h = 0 ∨ h = 128) : preV n 7 h = strOf (addHead h (bytesOf n (pw 7 - 1))) := by
  unfold preV; rw [if_pos (okP7 h0 h1 hh)]
theorem l4V_size {s : ByteArray} (h : (l4V s).2 = true) : (l4V s).1.size = (5 * s.size + 7) / 8 := by
  unfold l4V at h ⊢
  split at h
  · rename_i ho
    rw [if_pos ho]
    show (strOf (packF (sgnL s) 0 0)).size = _
    rw [strOf_size, packF_len _ _ _ (by omega), sgnL_len]; omega
  · cases h

set_option maxHeartbeats 1000000 in
theorem implLiteral (s : ByteArray) (w : World) (hs : s.size ≤ maxLen) : Calls Try.prog 11 #[.string s] w fun e w' => e = .returned (.string (litV s)) ∧ Below w.heap.size w w' := by
  have hs' := hs
  unfold maxLen at hs'
  by_cases h : 200 < s.size
  · rw [show litV s = ⟨#[]⟩ from by simp [litV, h]]
    go_enter Try.func11, Try.ntmps11
    go_wp2_with fail
    go_ret
    exact ⟨rfl, Below.refl _ _⟩
  have hps0 := (law_size (okP7 (n := (s.size : Int)) (h := 0) (by omega) (by omega) (.inl rfl))).2.1
  have hpk : pkV s = l4V s := by simp [pkV, show s.size ≤ 200 by omega]
  have h2 : ¬ (200 : Int) < s.size := by omega
  cases ho : (l4V s).2
  · rw [show litV s = preV (s.size : Int) 7 0 ++ s from by simp [litV, h, ho]]
    go_enter Try.func11, Try.ntmps11
    go_wp2_with (first | (go_at_call 18; refine (implPacked _ _ hs).mono ?_; rw [hpk, ho]; rintro e w1 ⟨rfl, hb1⟩) | (go_at_call 23; refine (implPrefixed _ _ _ _).mono ?_; rintro e w2 ⟨rfl, hb2⟩))
    go_ret
    exact ⟨rfl, bchain hb1 hb2⟩
  have hz : (l4V s).1.size ≤ 200 := by have := l4V_size ho; omega
  by_cases hlt : (l4V s).1.size < s.size
  · have hlt' : ((l4V s).1.size : Int) < s.size := by omega
    have hps1 := (law_size (okP7 (n := ((l4V s).1.size : Int)) (h := 128) (by omega) (by omega) (.inr rfl))).2.1
    rw [show litV s = preV ((l4V s).1.size : Int) 7 128 ++ (l4V s).1 from by simp [litV, h, ho, hlt]]
    go_enter Try.func11, Try.ntmps11
    go_wp2_with (first | (go_at_call 18; refine (implPacked _ _ hs).mono ?_; rw [hpk, ho]; rintro e w1 ⟨rfl, hb1⟩) | (go_at_call 23; refine (implPrefixed _ _ _ _).mono ?_; rintro e w2 ⟨rfl, hb2⟩))
    go_ret
    exact ⟨rfl, bchain hb1 hb2⟩
  · have hlt' : ¬ ((l4V s).1.size : Int) < s.size := by omega
    rw [show litV s = preV (s.size : Int) 7 0 ++ s from by simp [litV, h, ho, hlt]]
    go_enter Try.func11, Try.ntmps11
    go_wp2_with (first | (go_at_call 18; refine (implPacked _ _ hs).mono ?_; rw [hpk, ho]; rintro e w1 ⟨rfl, hb1⟩) | (go_at_call 23; refine (implPrefixed _ _ _ _).mono ?_; rintro e w2 ⟨rfl, hb2⟩))
    go_ret
    exact ⟨rfl, bchain hb1 hb2⟩
set_option maxHeartbeats 1000000 in
theorem specLiteral (s : ByteArray) (w : World) (hs : s.size ≤ maxLen) : Calls Try.prog 15 #[.string s] w fun e w' => e = .returned (.string (litV s)) ∧ Below w.heap.size w w' := by
  have hs' := hs
  unfold maxLen at hs'
  by_cases h : 200 < s.size
  · rw [show litV s = ⟨#[]⟩ from by simp [litV, h]]
    go_enter Try.func15, Try.ntmps15
    go_wp2_with fail
    go_ret
    exact ⟨rfl, Below.refl _ _⟩
  have hps0 := (law_size (okP7 (n := (s.size : Int)) (h := 0) (by omega) (by omega) (.inl rfl))).2.1
  have hpk : pkV s = l4V s := by simp [pkV, show s.size ≤ 200 by omega]
  have h2 : ¬ (200 : Int) < s.size := by omega
  cases ho : (l4V s).2
  · rw [show litV s = preV (s.size : Int) 7 0 ++ s from by simp [litV, h, ho]]
    go_enter Try.func15, Try.ntmps15
    go_wp2_with (first | (go_at_call 34; refine (specL4 _ _ (by omega)).mono ?_; rw [ho]; rintro e w1 ⟨rfl, hb1⟩) | (go_at_call 35; refine (specL3 _ _ _ _ (by omega) (by omega) (by omega) (by omega) (by omega) (by simp [pw])).mono ?_; rw [← preV7 (by omega) (by omega) (.inl rfl)]; rintro e w2 ⟨rfl, hb2⟩))
    go_ret
    exact ⟨rfl, bchain hb1 hb2⟩
  have hz : (l4V s).1.size ≤ 200 := by have := l4V_size ho; omega
  by_cases hlt : (l4V s).1.size < s.size
  · have hlt' : ((l4V s).1.size : Int) < s.size := by omega
    have hps1 := (law_size (okP7 (n := ((l4V s).1.size : Int)) (h := 128) (by omega) (by omega) (.inr rfl))).2.1
    rw [show litV s = preV ((l4V s).1.size : Int) 7 128 ++ (l4V s).1 from by simp [litV, h, ho, hlt]]
    go_enter Try.func15, Try.ntmps15
    go_wp2_with (first | (go_at_call 34; refine (specL4 _ _ (by omega)).mono ?_; rw [ho]; rintro e w1 ⟨rfl, hb1⟩) | (go_at_call 35; refine (specL3 _ _ _ _ (by omega) (by omega) (by omega) (by omega) (by omega) (by simp [pw])).mono ?_; rw [← preV7 (by omega) (by omega) (.inr rfl)]; rintro e w2 ⟨rfl, hb2⟩))
    go_ret
    exact ⟨rfl, bchain hb1 hb2⟩
  · have hlt' : ¬ ((l4V s).1.size : Int) < s.size := by omega
    rw [show litV s = preV (s.size : Int) 7 0 ++ s from by simp [litV, h, ho, hlt]]
    go_enter Try.func15, Try.ntmps15
    go_wp2_with (first | (go_at_call 34; refine (specL4 _ _ (by omega)).mono ?_; rw [ho]; rintro e w1 ⟨rfl, hb1⟩) | (go_at_call 35; refine (specL3 _ _ _ _ (by omega) (by omega) (by omega) (by omega) (by omega) (by simp [pw])).mono ?_; rw [← preV7 (by omega) (by omega) (.inl rfl)]; rintro e w2 ⟨rfl, hb2⟩))
    go_ret
    exact ⟨rfl, bchain hb1 hb2⟩
end Go.Proofs.Ytiilmbbgngpleaa
