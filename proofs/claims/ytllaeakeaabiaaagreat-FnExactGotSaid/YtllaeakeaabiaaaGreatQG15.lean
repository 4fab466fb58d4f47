/- Several small texts of one level, one behind the other. -/
import Derived.Test.YtllaeakeaabiaaaGreatQLitUnpack2
import Derived.Handy
import Derived.Test.YtllaeakeaabiaaaGreatQG14
/- Literal of both sides. -/
namespace Go.Proofs.YtllaeakeaabiaaaGreat
open Go.RowKit
set_option maxRecDepth 100000
set_option linter.unusedSimpArgs false
set_option linter.unusedVariables false

/-- What Literal answers. -/
def litV (s : ByteArray) : ByteArray :=
  if 200 < s.size then ⟨#[]⟩ else if (l4V s).2 = true ∧ (l4V s).1.size < s.size then preV ((l4V s).1.size : Int) 7 128 ++ (l4V s).1 else preV (s.size : Int) 7 0 ++ s

theorem okP7 {n h : Int} (h0 : 0 ≤ n) (h1 : n ≤ 268435456) (hh : h = 0 ∨ h = 128) : okP n 7 h = true := by
  rcases hh with rfl | rfl <;> simp [okP, okN, inB, pw, h0, h1]
theorem preV7 {n h : Int} (h0 : 0 ≤ n) (h1 : n ≤ 268435456) (hh : h = 0 ∨ h = 128) : preV n 7 h = strOf (addHead h (bytesOf n (pw 7 - 1))) := by
  unfold preV; rw [if_pos (okP7 h0 h1 hh)]
theorem l4V_size {s : ByteArray} (h : (l4V s).2 = true) : (l4V s).1.size = (5 * s.size + 7) / 8 := by
  unfold l4V at h ⊢
  split at h
  · rename_i ho
    rw [if_pos ho]
    show (strOf (packF (sgnL s) 0 0)).size = _
    rw [strOf_size, packF_len _ _ _ (by omega), sgnL_len]; omega
  · cases h

set_option maxHeartbeats 1000000 in
theorem implLiteral (s : ByteArray) (w : World) (hs : s.size ≤ maxLen) : Calls Tryz.prog 252 #[.string s] w fun e w' => e = .returned (.string (litV s)) ∧ Below w.heap.size w w' := by
  have hs' := hs
  unfold maxLen at hs'
  by_cases h : 200 < s.size
  · rw [show litV s = ⟨#[]⟩ from by simp [litV, h]]
    go_enter Tryz.func252, Tryz.ntmps252
    go_wp2_with fail
    go_ret
    exact ⟨rfl, Below.refl _ _⟩
  have hps0 := (law_size (okP7 (n := (s.size : Int)) (h := 0) (by omega) (by omega) (.inl rfl))).2.1
  have hpk : pkV s = l4V s := by simp [pkV, show s.size ≤ 200 by omega]
  have h2 : ¬ (200 : Int) < s.size := by omega
  cases ho : (l4V s).2
  · rw [show litV s = preV (s.size : Int) 7 0 ++ s from by simp [litV, h, ho]]
    go_enter Tryz.func252, Tryz.ntmps252
    go_wp2_with (first | (go_at_call 259; refine (implPacked _ _ hs).mono ?_; rw [hpk, ho]; rintro e w1 ⟨rfl, hb1⟩) | (go_at_call 255; refine (implPrefixed _ _ _ _).mono ?_; rintro e w2 ⟨rfl, hb2⟩))
    go_ret
    exact ⟨rfl, bchain hb1 hb2⟩
  have hz : (l4V s).1.size ≤ 200 := by have := l4V_size ho; omega
  by_cases hlt : (l4V s).1.size < s.size
  · have hlt' : ((l4V s).1.size : Int) < s.size := by omega
    have hps1 := (law_size (okP7 (n := ((l4V s).1.size : Int)) (h := 128) (by omega) (by omega) (.inr rfl))).2.1
    rw [show litV s = preV ((l4V s).1.size : Int) 7 128 ++ (l4V s).1 from by simp [litV, h, ho, hlt]]
    go_enter Tryz.func252, Tryz.ntmps252
    go_wp2_with (first | (go_at_call 259; refine (implPacked _ _ hs).mono ?_; rw [hpk, ho]; rintro e w1 ⟨rfl, hb1⟩) | (go_at_call 255; refine (implPrefixed _ _ _ _).mono ?_; rintro e w2 ⟨rfl, hb2⟩))
    go_ret
    exact ⟨rfl, bchain hb1 hb2⟩
  · have hlt' : ¬ ((l4V s).1.size : Int) < s.size := by omega
    rw [show litV s = preV (s.size : Int) 7 0 ++ s from by simp [litV, h, ho, hlt]]
    go_enter Tryz.func252, Tryz.ntmps252
    go_wp2_with (first | (go_at_call 259; refine (implPacked _ _ hs).mono ?_; rw [hpk, ho]; rintro e w1 ⟨rfl, hb1⟩) | (go_at_call 255; refine (implPrefixed _ _ _ _).mono ?_; rintro e w2 ⟨rfl, hb2⟩))
    go_ret
    exact ⟨rfl, bchain hb1 hb2⟩
set_option maxHeartbeats 1000000 in
theorem specLiteral (s : ByteArray) (w : World) (hs : s.size ≤ maxLen) : Calls Tryz.prog 193 #[.string s] w fun e w' => e = .returned (.string (litV s)) ∧ Below w.heap.size w w' := by
  have hs' := hs
  unfold maxLen at hs'
  by_cases h : 200 < s.size
  · rw [show litV s = ⟨#[]⟩ from by simp [litV, h]]
    go_enter Tryz.func193, Tryz.ntmps193
    go_wp2_with fail
    go_ret
    exact ⟨rfl, Below.refl _ _⟩
  have hps0 := (law_size (okP7 (n := (s.size : Int)) (h := 0) (by omega) (by omega) (.inl rfl))).2.1
  have hpk : pkV s = l4V s := by simp [pkV, show s.size ≤ 200 by omega]
  have h2 : ¬ (200 : Int) < s.size := by omega
  cases ho : (l4V s).2
  · rw [show litV s = preV (s.size : Int) 7 0 ++ s from by simp [litV, h, ho]]
    go_enter Tryz.func193, Tryz.ntmps193
    go_wp2_with (first | (go_at_call 224; refine (specL4 _ _ (by omega)).mono ?_; rw [ho]; rintro e w1 ⟨rfl, hb1⟩) | (go_at_call 192; refine (specL3 _ _ _ _ (by omega) (by omega) (by omega) (by omega) (by omega) (by simp [pw])).mono ?_; rw [← preV7 (by omega) (by omega) (.inl rfl)]; rintro e w2 ⟨rfl, hb2⟩))
    go_ret
    exact ⟨rfl, bchain hb1 hb2⟩
  have hz : (l4V s).1.size ≤ 200 := by have := l4V_size ho; omega
  by_cases hlt : (l4V s).1.size < s.size
  · have hlt' : ((l4V s).1.size : Int) < s.size := by omega
    have hps1 := (law_size (okP7 (n := ((l4V s).1.size : Int)) (h := 128) (by omega) (by omega) (.inr rfl))).2.1
    rw [show litV s = preV ((l4V s).1.size : Int) 7 128 ++ (l4V s).1 from by simp [litV, h, ho, hlt]]
    go_enter Tryz.func193, Tryz.ntmps193
    go_wp2_with (first | (go_at_call 224; refine (specL4 _ _ (by omega)).mono ?_; rw [ho]; rintro e w1 ⟨rfl, hb1⟩) | (go_at_call 192; refine (specL3 _ _ _ _ (by omega) (by omega) (by omega) (by omega) (by omega) (by simp [pw])).mono ?_; rw [← preV7 (by omega) (by omega) (.inr rfl)]; rintro e w2 ⟨rfl, hb2⟩))
    go_ret
    exact ⟨rfl, bchain hb1 hb2⟩
  · have hlt' : ¬ ((l4V s).1.size : Int) < s.size := by omega
    rw [show litV s = preV (s.size : Int) 7 0 ++ s from by simp [litV, h, ho, hlt]]
    go_enter Tryz.func193, Tryz.ntmps193
    go_wp2_with (first | (go_at_call 224; refine (specL4 _ _ (by omega)).mono ?_; rw [ho]; rintro e w1 ⟨rfl, hb1⟩) | (go_at_call 192; refine (specL3 _ _ _ _ (by omega) (by omega) (by omega) (by omega) (by omega) (by simp [pw])).mono ?_; rw [← preV7 (by omega) (by omega) (.inl rfl)]; rintro e w2 ⟨rfl, hb2⟩))
    go_ret
    exact ⟨rfl, bchain hb1 hb2⟩
end Go.Proofs.YtllaeakeaabiaaaGreat
/- What FnTables says of tables, in plain words. -/
namespace Go.Proofs.YtllaeakeaabiaaaGreat
open Go.RowKit
set_option maxRecDepth 100000
set_option linter.unusedSimpArgs false
set_option linter.unusedVariables false

theorem shrN_prefix {room : Int} (n : Nat) : ∀ L : List Fd, shrN room n L = L.take (shrN room n L).length := by
  induction n with
  | zero => intro L; simp [shrN]
  | succ n ih =>
    intro L
    rw [shrN]
    split
    · have h := ih L.dropLast
      have hl : (shrN room n L.dropLast).length ≤ L.dropLast.length := by
        have := congrArg List.length h; rw [List.length_take] at this; omega
      conv => lhs; rw [h]
      rw [List.dropLast_eq_take, List.take_take]
      rw [List.length_dropLast] at hl
      rw [← List.dropLast_eq_take, Nat.min_eq_left hl]
    · simp
theorem shr_prefix (room : Int) (L : List Fd) : shr room L = L.take (shr room L).length := shrN_prefix _ L
theorem shrN_fits {room : Int} (hr : 0 ≤ room) (n : Nat) : ∀ L : List Fd, L.length ≤ n → sumW (shrN room n L) ≤ room := by
  induction n with
  | zero => intro L hl; have : L = [] := List.length_eq_zero_iff.1 (by omega); subst this; simpa [shrN, sumW] using hr
  | succ n ih =>
    intro L hl
    rw [shrN]
    split
    · exact ih _ (by rw [List.length_dropLast]; omega)
    · omega
theorem shr_fits {room : Int} (hr : 0 ≤ room) (L : List Fd) : sumW (shr room L) ≤ room := shrN_fits hr _ L (Nat.le_refl _)
theorem shrN_head {room : Int} {f : Fd} (hf : wt f ≤ room) (n : Nat) : ∀ L : List Fd, 0 < (shrN room n (f :: L)).length := by
  induction n with
  | zero => intro L; simp [shrN]
  | succ n ih =>
    intro L
    rw [shrN]
    split
    · rename_i h
      cases L with
      | nil => simp [sumW] at h; omega
      | cons g L => rw [List.dropLast_cons_of_ne_nil (by simp)]; exact ih _
    · simp
theorem okT_of {room : Int} {L : List Fd} (h0 : 0 ≤ room) (h1 : room ≤ 1000) (hok : ∀ f ∈ L, okF f = true) (hs : sumW L ≤ room) : okT room L = true := by
  have : L.all okF = true := List.all_eq_true.2 hok
  simp [okT, inB, h0, h1, this, hs]

/-- A right table, resized: right again, and its first rows. -/
theorem resized_ok {room : Int} {L : List Fd} (r : Int) (h : okT room L = true) : okT (resizedD room L r).1.1 (resizedD room L r).1.2 = true ∧ (resizedD room L r).1.2 = L.take (resizedD room L r).1.2.length ∧ (resizedD room L r).1.2.length ≤ L.length := by
  obtain ⟨h0, h1, h2, h3, h4⟩ := okT_parts h
  unfold resizedD
  rw [if_pos h]
  split
  · rename_i hr
    have hr' := inB_true hr
    exact ⟨okT_of hr'.1 hr'.2 (shr_all h2) (shr_fits hr'.1 L), shr_prefix r L, shr_len L⟩
  · exact ⟨h, by simp, Nat.le_refl _⟩

theorem noted_no {room : Int} {L : List Fd} (f : Fd) (h : okT room L = false) : notedD room L f = ((0, []), false) := by simp [notedD, h]
theorem noted_as {room : Int} {L : List Fd} {f : Fd} (h : okT room L = true) (hf : okF f = false) : notedD room L f = ((room, L), false) := by simp [notedD, h, hf]
/-- Noted in a right table: right again; too great: nothing is left; else first, the first rows behind it. -/
theorem noted_ok {room : Int} {L : List Fd} {f : Fd} (h : okT room L = true) (hf : okF f = true) :
    ∃ N : List Fd, notedD room L f = ((room, N), true) ∧ okT room N = true ∧ (room < wt f → N = []) ∧ (¬ room < wt f → ∃ m, m ≤ L.length ∧ N = f :: L.take m) := by
  obtain ⟨h0, h1, h2, h3, h4⟩ := okT_parts h
  have hall : ∀ u ∈ f :: L, okF u = true := fun u hu => by rcases List.mem_cons.1 hu with rfl | hu; exact hf; exact h2 u hu
  have hfit := shr_fits h0 (f :: L)
  have hpre := shr_prefix room (f :: L)
  have hlen := shr_len (room := room) (f :: L)
  refine ⟨shr room (f :: L), by simp [notedD, h, hf], okT_of h0 h1 (shr_all hall) hfit, fun hw => ?_, fun hw => ?_⟩
  · cases hn : (shr room (f :: L)).length with
    | zero => exact List.length_eq_zero_iff.1 hn
    | succ m =>
      exfalso
      rw [hn, List.take_succ_cons] at hpre
      rw [hpre] at hfit
      have := sumW_range (L.take m)
      simp only [sumW] at hfit
      omega
  · have hpos : 0 < (shr room (f :: L)).length := shrN_head (by omega) _ L
    cases hn : (shr room (f :: L)).length with
    | zero => omega
    | succ m =>
      refine ⟨m, by rw [hn] at hlen; simpa using hlen, ?_⟩
      rw [hn, List.take_succ_cons] at hpre
      exact hpre

theorem numOf_at (p : Fd → Bool) (L : List Fd) (h : numOf p L ≠ 0) : ∃ hk : numOf p L - 1 < L.length, p L[numOf p L - 1] = true := by
  induction L with
  | nil => simp [numOf] at h
  | cons r L ih =>
    by_cases hp : p r = true
    · have e : numOf p (r :: L) = 1 := by simp [numOf, hp]
      simp only [e]
      exact ⟨by simp, by simpa using hp⟩
    · have hz : numOf p L ≠ 0 := fun h0 => h (by simp [numOf, hp, h0])
      obtain ⟨hk, hv⟩ := ih hz
      obtain ⟨m, hm⟩ : ∃ m, numOf p L = m + 1 := ⟨numOf p L - 1, by omega⟩
      have e : numOf p (r :: L) = m + 2 := by simp [numOf, hp, hm]
      rw [hm] at hk
      simp only [e]
      simp only [hm] at hv
      exact ⟨by simp at hk ⊢; omega, by simpa using hv⟩
theorem numOf_none (p : Fd → Bool) (L : List Fd) (h : numOf p L = 0) : ∀ r ∈ L, p r = false := by
  induction L with
  | nil => intro r hr; cases hr
  | cons x L ih =>
    intro r hr
    simp only [numOf] at h
    split at h
    · omega
    · rename_i hx
      split at h
      · rename_i h0
        rcases List.mem_cons.1 hr with rfl | hr
        · simpa using hx
        · exact ih h0 r hr
      · omega

/-- What is looked up lies under its number. -/
theorem look_row {room : Int} {L : List Fd} {g : Fd} (h : 0 < (lookD room L g).1) :
    ∃ row : Fd, rowAtD room L (lookD room L g).1 = (row, true) ∧ (row.n.toList == g.n.toList) = true ∧ ((lookD room L g).2 = true → (row.v.toList == g.v.toList) = true) ∧ ((lookD room L g).2 = false → (row.v.toList == g.v.toList) = false) := by
  unfold lookD at h ⊢
  cases hok : okT room L
  · rw [hok] at h; simp at h
  rw [hok] at h
  simp only [if_true] at h ⊢
  unfold lookL at h ⊢
  by_cases hz : numOf (alike g) L = 0
  · rw [if_pos hz] at h ⊢
    simp only at h ⊢
    obtain ⟨hk, hv⟩ := numOf_at (named g) L (by omega)
    have hno := numOf_none _ L hz _ (List.getElem_mem hk)
    have hle := numOf_le (named g) L
    refine ⟨L[numOf (named g) L - 1], ?_, hv, fun e => (by cases e), fun _ => ?_⟩
    · simp only [rowAtD, hok, if_true]
      rw [if_pos (by unfold inB; exact decide_eq_true (by omega))]
      simp [List.getD_eq_getElem?_getD, hk]
    · unfold alike at hno
      have hv' : (L[numOf (named g) L - 1].n.toList == g.n.toList) = true := hv
      rw [hv'] at hno
      simpa using hno
  · rw [if_neg hz] at h ⊢
    simp only at h ⊢
    obtain ⟨hk, hv⟩ := numOf_at (alike g) L hz
    have hle := numOf_le (alike g) L
    unfold alike at hv
    simp only [Bool.and_eq_true] at hv
    refine ⟨L[numOf (alike g) L - 1], ?_, hv.1, fun _ => hv.2, fun e => (by cases e)⟩
    simp only [rowAtD, hok, if_true]
    rw [if_pos (by unfold inB; exact decide_eq_true (by omega))]
    simp only [Prod.mk.injEq, and_true]
    rw [Int.toNat_natCast, List.getD_eq_getElem?_getD, List.getElem?_eq_getElem hk]
    rfl

theorem fv_take (L : List Fd) (m : Nat) : fv (L.take m) = (fv L).take (m * 2) := by
  induction L generalizing m with
  | nil => simp [fv]
  | cons f L ih =>
    cases m with
    | zero => simp [fv]
    | succ m =>
      rw [List.take_succ_cons]
      show Value.string f.n :: Value.string f.v :: fv (L.take m) = (Value.string f.n :: Value.string f.v :: fv L).take ((m + 1) * 2)
      rw [ih, show (m + 1) * 2 = m * 2 + 1 + 1 by omega, List.take_succ_cons, List.take_succ_cons]
/-- The first m of a slice. -/
theorem reads_take {w : World} {a : Option Addr} {p m : Nat} {L : List Fd} (h : Reads w (.slice a L.length p) L.length 2 (fv L)) (hm : m ≤ L.length) : Reads w (.slice a m p) (L.take m).length 2 (fv (L.take m)) := by
  obtain ⟨hl, ad, cap, e, h1, h2, h3⟩ := h
  simp only [Value.slice.injEq, true_and] at e
  obtain ⟨rfl, rfl⟩ := e
  have hlen : (L.take m).length = m := by rw [List.length_take]; omega
  rw [hlen]
  refine ⟨by rw [fv_take, List.length_take, hl]; omega, a, p, rfl, by omega, h2, fun h0 => ?_⟩
  obtain ⟨b, o, rfl, hb, hc⟩ := h3 (by omega)
  refine ⟨b, o, rfl, hb, fun j u hj => hc j u ?_⟩
  rw [fv_take] at hj
  by_cases hjm : j < m * 2
  · rwa [List.getElem?_take_of_lt hjm] at hj
  · rw [List.getElem?_take_eq_none (by omega)] at hj; cases hj
/-- All but the first of a slice. -/
theorem reads_tail {w : World} {b o p : Nat} {f : Fd} {L : List Fd} (h : Reads w (.slice (some ⟨b, o, none⟩) (f :: L).length p) (f :: L).length 2 (fv (f :: L))) : Reads w (.slice (some ⟨b, o + 2, none⟩) L.length (p - 1)) L.length 2 (fv L) := by
  obtain ⟨hl, ad, cap, e, h1, h2, h3⟩ := h
  simp only [Value.slice.injEq, true_and] at e
  obtain ⟨rfl, rfl⟩ := e
  simp only [List.length_cons] at h1 h3
  refine ⟨fv_len L, _, _, rfl, by omega, by omega, fun h0 => ?_⟩
  obtain ⟨b', o', e, hb, hc⟩ := h3 (by omega)
  simp only [Option.some.injEq, Addr.mk.injEq, and_true] at e
  obtain ⟨rfl, rfl⟩ := e
  refine ⟨b, o + 2, rfl, hb, fun j u hj => ?_⟩
  have := hc (2 + j) u (by show (Fd.cs f ++ fv L)[2 + j]? = some u; rw [List.getElem?_append_right (by simp [Fd.cs])]; simpa [Fd.cs] using hj)
  rw [show o + (2 + j) = o + 2 + j by omega] at this
  exact this
end Go.Proofs.YtllaeakeaabiaaaGreat
