/- Lemmas. -/
import Derived.Test.YtlpbnkideaojeaaGreatDoorQRpLitUnpack2
import Derived.Test.YtlpbnkideaojeaaGreatDoorQRpG14
namespace Go.Proofs.YtlpbnkideaojeaaGreatDoor
open Go.RowKit
set_option maxRecDepth 100000
set_option linter.unusedSimpArgs false
set_option linter.unusedVariables false
def aU (s : ByteArray) : ByteArray :=
 if 200 < s.size then ⟨#[]⟩ else if (dR s).2 = true ∧ (dR s).1.size < s.size then aY ((dR s).1.size : Int) 7 128 ++ (dR s).1 else aY (s.size : Int) 7 0 ++ s
theorem wQ {n h : Int} (h0 : 0 ≤ n) (h1 : n ≤ 268435456) (hh : h = 0 ∨ h = 128) : jl n 7 h = true := by
 rcases hh with rfl | rfl <;> simp [jl, rR, aQ, pw, h0, h1]
theorem Ib {n h : Int} (h0 : 0 ≤ n) (h1 : n ≤ 268435456) (hh : h = 0 ∨ h = 128) : aY n 7 h = strOf (kY h (bytesOf n (pw 7 - 1))) := by
 unfold aY; rw [if_pos (wQ h0 h1 hh)]
theorem Ea {s : ByteArray} (h : (dR s).2 = true) : (dR s).1.size = (5 * s.size + 7) / 8 := by
 unfold dR at h ⊢
 split at h
 ·rename_i ho
  rw [if_pos ho]
  show (strOf (cK (dX s) 0 0)).size = _
  rw [oP, Eb _ _ _ (by omega), yI]; omega
 ·cases h
set_option maxHeartbeats 1000000 in
theorem Ic (s : ByteArray) (w : World) (hs : s.size ≤ maxLen) : Calls Tryz.prog 155 #[.string s] w fun e w' => e = .returned (.string (aU s)) ∧ Below w.heap.size w w' := by
 have hs' := hs
 unfold maxLen at hs'
 by_cases h : 200 < s.size
 ·rw [show aU s = ⟨#[]⟩ from by simp [aU, h]]
  go_enter Tryz.func155, Tryz.ntmps155
  go_wp2_with fail
  go_ret
  exact ⟨rfl, Below.refl _ _⟩
 have XQ := (mO (wQ (n := (s.size : Int)) (h := 0) (by omega) (by omega) (.inl rfl))).2.1
 have hpk : lu s = dR s := by simp [lu, show s.size ≤ 200 by omega]
 have h2 : ¬ (200 : Int) < s.size := by omega
 cases ho : (dR s).2
 ·rw [show aU s = aY (s.size : Int) 7 0 ++ s from by simp [aU, h, ho]]
  go_enter Tryz.func155, Tryz.ntmps155
  go_wp2_with (first | (go_at_call 169; refine (Ie _ _ hs).mono ?_; rw [hpk, ho]; rintro e w1 ⟨rfl, hb1⟩) | (go_at_call 154; refine (yj _ _ _ _).mono ?_; rintro e w2 ⟨rfl, hb2⟩))
  go_ret
  exact ⟨rfl, ah hb1 hb2⟩
 have hz : (dR s).1.size ≤ 200 := by have := Ea ho; omega
 by_cases hlt : (dR s).1.size < s.size
 ·have hlt' : ((dR s).1.size : Int) < s.size := by omega
  have XR := (mO (wQ (n := ((dR s).1.size : Int)) (h := 128) (by omega) (by omega) (.inr rfl))).2.1
  rw [show aU s = aY ((dR s).1.size : Int) 7 128 ++ (dR s).1 from by simp [aU, h, ho, hlt]]
  go_enter Tryz.func155, Tryz.ntmps155
  go_wp2_with (first | (go_at_call 169; refine (Ie _ _ hs).mono ?_; rw [hpk, ho]; rintro e w1 ⟨rfl, hb1⟩) | (go_at_call 154; refine (yj _ _ _ _).mono ?_; rintro e w2 ⟨rfl, hb2⟩))
  go_ret
  exact ⟨rfl, ah hb1 hb2⟩
 ·have hlt' : ¬ ((dR s).1.size : Int) < s.size := by omega
  rw [show aU s = aY (s.size : Int) 7 0 ++ s from by simp [aU, h, ho, hlt]]
  go_enter Tryz.func155, Tryz.ntmps155
  go_wp2_with (first | (go_at_call 169; refine (Ie _ _ hs).mono ?_; rw [hpk, ho]; rintro e w1 ⟨rfl, hb1⟩) | (go_at_call 154; refine (yj _ _ _ _).mono ?_; rintro e w2 ⟨rfl, hb2⟩))
  go_ret
  exact ⟨rfl, ah hb1 hb2⟩
set_option maxHeartbeats 1000000 in
theorem Ig (s : ByteArray) (w : World) (hs : s.size ≤ maxLen) : Calls Tryz.prog 83 #[.string s] w fun e w' => e = .returned (.string (aU s)) ∧ Below w.heap.size w w' := by
 have hs' := hs
 unfold maxLen at hs'
 by_cases h : 200 < s.size
 ·rw [show aU s = ⟨#[]⟩ from by simp [aU, h]]
  go_enter Tryz.func83, Tryz.ntmps83
  go_wp2_with fail
  go_ret
  exact ⟨rfl, Below.refl _ _⟩
 have XQ := (mO (wQ (n := (s.size : Int)) (h := 0) (by omega) (by omega) (.inl rfl))).2.1
 have hpk : lu s = dR s := by simp [lu, show s.size ≤ 200 by omega]
 have h2 : ¬ (200 : Int) < s.size := by omega
 cases ho : (dR s).2
 ·rw [show aU s = aY (s.size : Int) 7 0 ++ s from by simp [aU, h, ho]]
  go_enter Tryz.func83, Tryz.ntmps83
  go_wp2_with (first | (go_at_call 111; refine (Ih _ _ (by omega)).mono ?_; rw [ho]; rintro e w1 ⟨rfl, hb1⟩) | (go_at_call 82; refine (Ar _ _ _ _ (by omega) (by omega) (by omega) (by omega) (by omega) (by simp [pw])).mono ?_; rw [← Ib (by omega) (by omega) (.inl rfl)]; rintro e w2 ⟨rfl, hb2⟩))
  go_ret
  exact ⟨rfl, ah hb1 hb2⟩
 have hz : (dR s).1.size ≤ 200 := by have := Ea ho; omega
 by_cases hlt : (dR s).1.size < s.size
 ·have hlt' : ((dR s).1.size : Int) < s.size := by omega
  have XR := (mO (wQ (n := ((dR s).1.size : Int)) (h := 128) (by omega) (by omega) (.inr rfl))).2.1
  rw [show aU s = aY ((dR s).1.size : Int) 7 128 ++ (dR s).1 from by simp [aU, h, ho, hlt]]
  go_enter Tryz.func83, Tryz.ntmps83
  go_wp2_with (first | (go_at_call 111; refine (Ih _ _ (by omega)).mono ?_; rw [ho]; rintro e w1 ⟨rfl, hb1⟩) | (go_at_call 82; refine (Ar _ _ _ _ (by omega) (by omega) (by omega) (by omega) (by omega) (by simp [pw])).mono ?_; rw [← Ib (by omega) (by omega) (.inr rfl)]; rintro e w2 ⟨rfl, hb2⟩))
  go_ret
  exact ⟨rfl, ah hb1 hb2⟩
 ·have hlt' : ¬ ((dR s).1.size : Int) < s.size := by omega
  rw [show aU s = aY (s.size : Int) 7 0 ++ s from by simp [aU, h, ho, hlt]]
  go_enter Tryz.func83, Tryz.ntmps83
  go_wp2_with (first | (go_at_call 111; refine (Ih _ _ (by omega)).mono ?_; rw [ho]; rintro e w1 ⟨rfl, hb1⟩) | (go_at_call 82; refine (Ar _ _ _ _ (by omega) (by omega) (by omega) (by omega) (by omega) (by simp [pw])).mono ?_; rw [← Ib (by omega) (by omega) (.inl rfl)]; rintro e w2 ⟨rfl, hb2⟩))
  go_ret
  exact ⟨rfl, ah hb1 hb2⟩
theorem XT {room : Int} (n : Nat) : ∀ L : List Fd, ig room n L = L.take (ig room n L).length := by
 induction n with
 | zero => intro L; simp [ig]
 | succ n ih =>
  intro L
  rw [ig]
  split
  ·have h := ih L.dropLast
   have hl : (ig room n L.dropLast).length ≤ L.dropLast.length := by
    have := congrArg List.length h; rw [List.length_take] at this; omega
   conv => lhs; rw [h]
   rw [List.dropLast_eq_take, List.take_take]
   rw [List.length_dropLast] at hl
   rw [← List.dropLast_eq_take, Nat.min_eq_left hl]
  ·simp
theorem XU (room : Int) (L : List Fd) : shr room L = L.take (shr room L).length := XT _ L
theorem XV {room : Int} (hr : 0 ≤ room) (n : Nat) : ∀ L : List Fd, L.length ≤ n → aS (ig room n L) ≤ room := by
 induction n with
 | zero => intro L hl; have : L = [] := List.length_eq_zero_iff.1 (by omega); subst this; simpa [ig, aS] using hr
 | succ n ih =>
  intro L hl
  rw [ig]
  split
  ·exact ih _ (by rw [List.length_dropLast]; omega)
  ·omega
theorem XW {room : Int} (hr : 0 ≤ room) (L : List Fd) : aS (shr room L) ≤ room := XV hr _ L (Nat.le_refl _)
theorem XY {room : Int} {f : Fd} (hf : wt f ≤ room) (n : Nat) : ∀ L : List Fd, 0 < (ig room n (f :: L)).length := by
 induction n with
 | zero => intro L; simp [ig]
 | succ n ih =>
  intro L
  rw [ig]
  split
  ·rename_i h
   cases L with
   | nil => simp [aS] at h; omega
   | cons g L => rw [List.dropLast_cons_of_ne_nil (by simp)]; exact ih _
  ·simp
theorem XZ {room : Int} {L : List Fd} (h0 : 0 ≤ room) (h1 : room ≤ 1000) (hok : ∀ f ∈ L, okF f = true) (hs : aS L ≤ room) : bI room L = true := by
 have : L.all okF = true := List.all_eq_true.2 hok
 simp [bI, aQ, h0, h1, this, hs]
theorem XD {room : Int} {L : List Fd} {f : Fd} (h : bI room L = true) (hf : okF f = true) :
  ∃ N : List Fd, lS room L f = ((room, N), true) ∧ bI room N = true ∧ (room < wt f → N = []) ∧ (¬ room < wt f → ∃ m, m ≤ L.length ∧ N = f :: L.take m) := by
 obtain ⟨h0, h1, h2, h3, h4⟩ := mE h
 have hall : ∀ u ∈ f :: L, okF u = true := fun u hu => by rcases List.mem_cons.1 hu with rfl | hu; exact hf; exact h2 u hu
 have hfit := XW h0 (f :: L)
 have hpre := XU room (f :: L)
 have hlen := WG (room := room) (f :: L)
 refine ⟨shr room (f :: L), by simp [lS, h, hf], XZ h0 h1 (DW hall) hfit, fun hw => ?_, fun hw => ?_⟩
 ·cases hn : (shr room (f :: L)).length with
  | zero => exact List.length_eq_zero_iff.1 hn
  | succ m =>
   exfalso
   rw [hn, List.take_succ_cons] at hpre
   rw [hpre] at hfit
   have := Au (L.take m)
   simp only [aS] at hfit
   omega
 ·have hpos : 0 < (shr room (f :: L)).length := XY (by omega) _ L
  cases hn : (shr room (f :: L)).length with
  | zero => omega
  | succ m =>
   refine ⟨m, by rw [hn] at hlen; simpa using hlen, ?_⟩
   rw [hn, List.take_succ_cons] at hpre
   exact hpre
theorem NM (p : Fd → Bool) (L : List Fd) (h : numOf p L ≠ 0) : ∃ hk : numOf p L - 1 < L.length, p L[numOf p L - 1] = true := by
 induction L with
 | nil => simp [numOf] at h
 | cons r L ih =>
  by_cases hp : p r = true
  ·have e : numOf p (r :: L) = 1 := by simp [numOf, hp]
   simp only [e]
   exact ⟨by simp, by simpa using hp⟩
  ·have hz : numOf p L ≠ 0 := fun h0 => h (by simp [numOf, hp, h0])
   obtain ⟨hk, hv⟩ := ih hz
   obtain ⟨m, hm⟩ : ∃ m, numOf p L = m + 1 := ⟨numOf p L - 1, by omega⟩
   have e : numOf p (r :: L) = m + 2 := by simp [numOf, hp, hm]
   rw [hm] at hk
   simp only [e]
   simp only [hm] at hv
   exact ⟨by simp at hk ⊢; omega, by simpa using hv⟩
end Go.Proofs.YtlpbnkideaojeaaGreatDoor
