/- Several small texts of one level, one behind the other. -/
import Derived.Test.YtllaeakeaabiaaaGreatQLL
import Derived.Test.YtllaeakeaabiaaaGreatQG15
import Derived.Test.YtllaeakeaabiaaaGreatQG3
/- Blocks in plain words: what a list of Fields is encoded as, what a block is decoded as, and that the one undoes the other, with one table at both ends. -/
namespace Go.Proofs.YtllaeakeaabiaaaGreat
open Go.RowKit
set_option maxRecDepth 100000
set_option linter.unusedSimpArgs false
set_option linter.unusedVariables false

/-- The first byte, as a number; -1: there is none. -/
def b0 (s : ByteArray) : Int := match bys s with | [] => -1 | x :: _ => x
theorem b0_append {a : ByteArray} (t : ByteArray) (h : 0 < a.size) : b0 (a ++ t) = b0 a := by
  unfold b0
  rw [bys_append]
  cases e : bys a with
  | nil => have := bys_len a; rw [e] at this; simp at this; omega
  | cons x xs => rfl
theorem b0_hi {s : ByteArray} {b : Int} (h : 0 < s.size) (h1 : 1 ≤ b) (h8 : b ≤ 8) : hiV s b = b0 s / pw b * pw b := by
  rw [hiV_yes h h1 h8]
  unfold b0
  rw [bys_cons h]

/-- What one Field is written as in a table of these rows, and the rows then. -/
def encF (room : Int) (L : List Fd) (f : Fd) : ByteArray × List Fd :=
  if (lookL L f).2 = true then (preV (lookL L f).1 7 128, L)
  else (preV (lookL L f).1 6 64 ++ ((if (lookL L f).1 = 0 then litV f.n else ⟨#[]⟩) ++ litV f.v), shr room (f :: L))
def encL (room : Int) : List Fd → List Fd → ByteArray × List Fd
  | L, [] => (⟨#[]⟩, L)
  | L, f :: fs => ((encF room L f).1 ++ (encL room (encF room L f).2 fs).1, (encL room (encF room L f).2 fs).2)
def okFs (l : List Fd) : Bool := l.all okF && decide (l.length ≤ 20)
def encodedD (room : Int) (L l : List Fd) : ByteArray × (Int × List Fd) × Bool :=
  if okT room L then (if okFs l then ((encL room L l).1, (room, (encL room L l).2), true) else (⟨#[]⟩, (room, L), false)) else (⟨#[]⟩, (0, []), false)

def noF : Fd := ⟨⟨#[]⟩, ⟨#[]⟩⟩
/-- The Field with which a block begins, and how many bytes it takes; 0: there is none. -/
def fldV (L : List Fd) (s : ByteArray) : Fd × Int :=
  if b0 s < 64 then (noF, 0)
  else if 128 ≤ b0 s then (if (rdV s 7).2 = 0 ∨ inB (rdV s 7).1 1 L.length = false then (noF, 0) else (L.getD ((rdV s 7).1.toNat - 1) noF, (rdV s 7).2))
  else if (rdV s 6).2 = 0 ∨ inB (rdV s 6).1 0 L.length = false then (noF, 0)
  else if (rdV s 6).1 = 0 then
    (if (rlV (s.extract (rdV s 6).2.toNat s.size)).2 = 0 then (noF, 0)
     else if (rlV (s.extract ((rdV s 6).2 + (rlV (s.extract (rdV s 6).2.toNat s.size)).2).toNat s.size)).2 = 0 then (noF, 0)
     else (⟨(rlV (s.extract (rdV s 6).2.toNat s.size)).1, (rlV (s.extract ((rdV s 6).2 + (rlV (s.extract (rdV s 6).2.toNat s.size)).2).toNat s.size)).1⟩, (rdV s 6).2 + (rlV (s.extract (rdV s 6).2.toNat s.size)).2 + (rlV (s.extract ((rdV s 6).2 + (rlV (s.extract (rdV s 6).2.toNat s.size)).2).toNat s.size)).2))
  else (if (rlV (s.extract (rdV s 6).2.toNat s.size)).2 = 0 then (noF, 0)
     else (⟨(L.getD ((rdV s 6).1.toNat - 1) noF).n, (rlV (s.extract (rdV s 6).2.toNat s.size)).1⟩, (rdV s 6).2 + (rlV (s.extract (rdV s 6).2.toNat s.size)).2))

theorem look_range (L : List Fd) (f : Fd) : 0 ≤ (lookL L f).1 ∧ (lookL L f).1 ≤ L.length := by
  unfold lookL
  have h1 := numOf_le (alike f) L
  have h2 := numOf_le (named f) L
  split <;> simp only <;> omega
/-- What is alike is the row itself; of what has a Name the row has it. -/
theorem look_alike {L : List Fd} {f : Fd} (h : (lookL L f).2 = true) : 1 ≤ (lookL L f).1 ∧ L.getD ((lookL L f).1.toNat - 1) noF = f := by
  unfold lookL at h ⊢
  split at h
  · cases h
  · rename_i hz
    rw [if_neg hz]
    obtain ⟨hk, hv⟩ := numOf_at (alike f) L hz
    simp only [alike, Bool.and_eq_true] at hv
    refine ⟨by show (1 : Int) ≤ (numOf (alike f) L : Int); omega, ?_⟩
    show L.getD (numOf (alike f) L - 1) noF = f
    rw [List.getD_eq_getElem?_getD, List.getElem?_eq_getElem hk]
    show L[numOf (alike f) L - 1] = f
    have e1 := tl_eq hv.1
    have e2 := tl_eq hv.2
    revert e1 e2
    cases f
    generalize L[numOf _ L - 1] = r
    cases r
    rintro rfl rfl
    rfl
theorem look_named {L : List Fd} {f : Fd} (h : (lookL L f).2 = false) (h0 : (lookL L f).1 ≠ 0) : 1 ≤ (lookL L f).1 ∧ (L.getD ((lookL L f).1.toNat - 1) noF).n = f.n := by
  unfold lookL at h h0 ⊢
  split at h
  · rename_i hz
    rw [if_pos hz] at h0 ⊢
    simp only at h0 ⊢
    obtain ⟨hk, hv⟩ := numOf_at (named f) L (by omega)
    refine ⟨by omega, ?_⟩
    rw [Int.toNat_natCast, List.getD_eq_getElem?_getD, List.getElem?_eq_getElem hk]
    exact tl_eq hv
  · cases h

theorem okP_7 {n : Int} (h0 : 0 ≤ n) (h1 : n ≤ 111) : okP n 7 128 = true := by simp [okP, okN, inB, pw]; omega
theorem okP_6 {n : Int} (h0 : 0 ≤ n) (h1 : n ≤ 111) : okP n 6 64 = true := by simp [okP, okN, inB, pw]; omega
theorem b0_7 {n : Int} (h0 : 0 ≤ n) (h1 : n ≤ 111) (t : ByteArray) : 128 ≤ b0 (preV n 7 128 ++ t) := by
  have ho := okP_7 h0 h1
  have hp := (law_size ho).1
  rw [b0_append t hp]
  have h := law_high ho
  rw [b0_hi hp (by omega) (by omega)] at h
  have e : pw 7 = 128 := by simp [pw]
  rw [e] at h
  omega
theorem b0_6 {n : Int} (h0 : 0 ≤ n) (h1 : n ≤ 111) (t : ByteArray) : 64 ≤ b0 (preV n 6 64 ++ t) ∧ b0 (preV n 6 64 ++ t) < 128 := by
  have ho := okP_6 h0 h1
  have hp := (law_size ho).1
  rw [b0_append t hp]
  have h := law_high ho
  rw [b0_hi hp (by omega) (by omega)] at h
  have e : pw 6 = 64 := by simp [pw]
  rw [e] at h
  omega

/-- What one Field is written as begins so, and is not empty. -/
theorem encF_first {room : Int} {L : List Fd} {f : Fd} (hL : L.length ≤ 111) (t : ByteArray) : 0 < (encF room L f).1.size ∧ 64 ≤ b0 ((encF room L f).1 ++ t) ∧ (b0 ((encF room L f).1 ++ t) < 128 ↔ (lookL L f).2 = false) := by
  have hr := look_range L f
  unfold encF
  cases hl : (lookL L f).2
  · rw [if_neg (by simp)]
    simp only
    have hb := b0_6 (n := (lookL L f).1) (by omega) (by omega) (((if (lookL L f).1 = 0 then litV f.n else ⟨#[]⟩) ++ litV f.v) ++ t)
    rw [← ba_append_assoc] at hb
    have hs := (law_size (okP_6 (n := (lookL L f).1) (by omega) (by omega))).1
    exact ⟨by rw [ba_size_append]; omega, hb.1, by simp; exact hb.2⟩
  · rw [if_pos rfl]
    simp only
    have hb := b0_7 (n := (lookL L f).1) (by omega) (by omega) t
    exact ⟨(law_size (okP_7 (n := (lookL L f).1) (by omega) (by omega))).1, by omega, by simp; omega⟩

/-- A Field is read of what it is written as, whatever comes behind. -/
theorem fld_enc {room : Int} {L : List Fd} {f : Fd} (hL : L.length ≤ 111) (hf : okF f = true) (t : ByteArray) : fldV L ((encF room L f).1 ++ t) = (f, ((encF room L f).1.size : Int)) := by
  have hr := look_range L f
  obtain ⟨hn1, hn2, hv2⟩ := okF_parts hf
  obtain ⟨hpos, hb64, hb128⟩ := encF_first (room := room) (f := f) hL t
  cases hl : (lookL L f).2
  · have hlt := hb128.2 hl
    have hE : (encF room L f).1 = preV (lookL L f).1 6 64 ++ ((if (lookL L f).1 = 0 then litV f.n else ⟨#[]⟩) ++ litV f.v) := by unfold encF; rw [if_neg (by simp [hl])]
    have ho := okP_6 (n := (lookL L f).1) (by omega) (by omega)
    have hrd : rdV ((encF room L f).1 ++ t) 6 = ((lookL L f).1, ((preV (lookL L f).1 6 64).size : Int)) := by rw [hE, ba_append_assoc]; exact law_read ho _
    have hk := (law_size ho).1
    unfold fldV
    rw [if_neg (by omega), if_neg (by omega), hrd]
    simp only
    rw [if_neg (fun h => h.elim (fun h => by omega) (fun h => by have := inB_false h; omega))]
    by_cases h0 : (lookL L f).1 = 0
    · have hE0 : (encF room L f).1 ++ t = preV (lookL L f).1 6 64 ++ (litV f.n ++ (litV f.v ++ t)) := by rw [hE, if_pos h0, ba_append_assoc, ba_append_assoc]
      have hsz : (encF room L f).1.size = (preV (lookL L f).1 6 64).size + (litV f.n).size + (litV f.v).size := by rw [hE, if_pos h0, ba_size_append, ba_size_append]; omega
      have x1 : ((encF room L f).1 ++ t).extract (preV (lookL L f).1 6 64).size ((encF room L f).1 ++ t).size = litV f.n ++ (litV f.v ++ t) := by rw [hE0]; exact ba_right _ _
      have y1 := rd_lit (s := f.n) (litV f.v ++ t) (by omega)
      have x2 : ((encF room L f).1 ++ t).extract ((preV (lookL L f).1 6 64).size + (litV f.n).size) ((encF room L f).1 ++ t).size = litV f.v ++ t := by
        rw [hE0, ← ba_append_assoc, ← ba_size_append]; exact ba_right _ _
      have y2 := rd_lit (s := f.v) t (by omega)
      have p1 : 0 < (litV f.n).size := lit_pos (by omega)
      have p2 : 0 < (litV f.v).size := lit_pos (by omega)
      rw [if_pos h0, Int.toNat_natCast, x1, y1]
      simp only
      rw [if_neg (by omega)]
      have e3 : ((preV (lookL L f).1 6 64).size + ((litV f.n).size : Int)).toNat = (preV (lookL L f).1 6 64).size + (litV f.n).size := by omega
      rw [e3, x2, y2]
      simp only
      rw [if_neg (by omega), hsz]
      simp
    · have hnm := look_named hl h0
      have hE0 : (encF room L f).1 ++ t = preV (lookL L f).1 6 64 ++ (litV f.v ++ t) := by rw [hE, if_neg h0, ba_nil_append, ba_append_assoc]
      have hsz : (encF room L f).1.size = (preV (lookL L f).1 6 64).size + (litV f.v).size := by rw [hE, if_neg h0, ba_nil_append, ba_size_append]
      have x1 : ((encF room L f).1 ++ t).extract (preV (lookL L f).1 6 64).size ((encF room L f).1 ++ t).size = litV f.v ++ t := by rw [hE0]; exact ba_right _ _
      have y1 := rd_lit (s := f.v) t (by omega)
      have p2 : 0 < (litV f.v).size := lit_pos (by omega)
      rw [if_neg h0, Int.toNat_natCast, x1, y1]
      simp only
      rw [if_neg (by omega), hsz, hnm.2]
      simp
  · have hge : ¬ b0 ((encF room L f).1 ++ t) < 128 := fun h => by have := hb128.1 h; rw [hl] at this; cases this
    have hE : (encF room L f).1 = preV (lookL L f).1 7 128 := by unfold encF; rw [if_pos (by simp [hl])]
    have hal := look_alike hl
    have ho := okP_7 (n := (lookL L f).1) (by omega) (by omega)
    have hrd : rdV ((encF room L f).1 ++ t) 7 = ((lookL L f).1, ((preV (lookL L f).1 7 128).size : Int)) := by rw [hE]; exact law_read ho _
    have hk := (law_size ho).1
    unfold fldV
    rw [if_neg (by omega), if_pos (by omega), hrd]
    simp only
    rw [if_neg (fun h => h.elim (fun h => by omega) (fun h => by have := inB_false h; omega)), hal.2, hE]

/-- The rows when a Field has been read that was written: as with the one who writes. -/
theorem encF_rows {room : Int} {L : List Fd} {f : Fd} (hL : L.length ≤ 111) (t : ByteArray) : (encF room L f).2 = if b0 ((encF room L f).1 ++ t) < 128 then shr room (f :: L) else L := by
  obtain ⟨_, _, h⟩ := encF_first (room := room) (f := f) hL t
  cases hl : (lookL L f).2
  · rw [if_pos (h.2 hl)]; unfold encF; rw [if_neg (by simp [hl])]
  · rw [if_neg (fun k => by have := h.1 k; rw [hl] at this; cases this)]; unfold encF; rw [if_pos (by simp [hl])]
theorem encF_ok {room : Int} {L : List Fd} {f : Fd} (h : okT room L = true) (hf : okF f = true) : okT room (encF room L f).2 = true := by
  unfold encF
  split
  · exact h
  · obtain ⟨N, e, hN, _⟩ := noted_ok h hf
    simp only [notedD, h, hf, if_true, Prod.mk.injEq, true_and, and_true] at e
    rw [e]; exact hN
theorem encL_ok {room : Int} : ∀ (l : List Fd) {L : List Fd}, okT room L = true → (∀ f ∈ l, okF f = true) → okT room (encL room L l).2 = true
  | [], L, h, _ => h
  | f :: l, L, h, hl => encL_ok l (encF_ok h (hl f (by simp))) (fun g hg => hl g (by simp [hg]))

/-- The Fields of a block, one after the other: those that are read, and the rows then. -/
def decF (room : Int) : Nat → List Fd → List Fd → ByteArray → Option (List Fd × List Fd)
  | 0, L, out, s => if s.size = 0 then some (out, L) else none
  | n + 1, L, out, s =>
    if s.size = 0 then some (out, L)
    else if (fldV L s).2 = 0 ∨ okF (fldV L s).1 = false ∨ out.length = 20 then none
    else decF room n (if b0 s < 128 then shr room ((fldV L s).1 :: L) else L) (out ++ [(fldV L s).1]) (s.extract (fldV L s).2.toNat s.size)
def decodedD (room : Int) (L : List Fd) (s : ByteArray) : List Fd × (Int × List Fd) × Bool :=
  if okT room L then
    (match decF room s.size L [] s with
     | some (out, M) => if (encL room L out).1 = s then (out, (room, M), true) else ([], (room, L), false)
     | none => ([], (room, L), false))
  else ([], (0, []), false)

theorem dec_enc {room : Int} : ∀ (l : List Fd) (L out : List Fd) (n : Nat), okT room L = true → (∀ f ∈ l, okF f = true) → out.length + l.length ≤ 20 → (encL room L l).1.size ≤ n →
    decF room n L out (encL room L l).1 = some (out ++ l, (encL room L l).2)
  | [], L, out, n, h, hl, h20, hn => by
    show decF room n L out ⟨#[]⟩ = some (out ++ [], L)
    rw [List.append_nil]
    cases n <;> (unfold decF; exact if_pos rfl)
  | f :: l, L, out, n, h, hl, h20, hn => by
    have hf := hl f (by simp)
    have hL := (okT_parts h).2.2.2.2
    obtain ⟨hpos, _, _⟩ := encF_first (room := room) (f := f) hL (encL room (encF room L f).2 l).1
    have hfl := fld_enc (room := room) hL hf (encL room (encF room L f).2 l).1
    have hrw := encF_rows (room := room) (f := f) hL (encL room (encF room L f).2 l).1
    have hE : (encL room L (f :: l)).1 = (encF room L f).1 ++ (encL room (encF room L f).2 l).1 := rfl
    have hE2 : (encL room L (f :: l)).2 = (encL room (encF room L f).2 l).2 := rfl
    rw [hE] at hn ⊢
    rw [ba_size_append] at hn
    cases n with
    | zero => omega
    | succ n =>
      rw [decF, if_neg (by rw [ba_size_append]; omega), hfl]
      simp only
      rw [if_neg (fun h => h.elim (fun h => by omega) (fun h => h.elim (fun h => by rw [hf] at h; cases h) (fun h => by simp only [List.length_cons] at h20; omega))), ← hrw, Int.toNat_natCast, ba_right]
      rw [dec_enc l _ _ n (encF_ok h hf) (fun g hg => hl g (by simp [hg])) (by simp only [List.length_append, List.length_cons, List.length_nil] at h20 ⊢; omega) (by omega), hE2]
      simp

/-- DECODED OF ENCODED: the Fields, and one table at both ends. -/
theorem law_dec {room : Int} {L l : List Fd} (h : okT room L = true) (hl : okFs l = true) : decodedD room L (encodedD room L l).1 = (l, (encodedD room L l).2.1, true) := by
  simp only [okFs, Bool.and_eq_true, List.all_eq_true, decide_eq_true_eq] at hl
  have hok : okFs l = true := by simp only [okFs, Bool.and_eq_true, List.all_eq_true, decide_eq_true_eq]; exact hl
  have hE : encodedD room L l = ((encL room L l).1, (room, (encL room L l).2), true) := by simp [encodedD, h, hok]
  rw [hE]
  unfold decodedD
  rw [if_pos h, dec_enc l L [] _ h hl.1 (by simpa using hl.2) (Nat.le_refl _)]
  simp

theorem dec_out {room : Int} : ∀ (n : Nat) (L out : List Fd) (s : ByteArray) (X : List Fd × List Fd), decF room n L out s = some X → ∃ m, X.1 = out ++ m
  | 0, L, out, s, X, h => by
    simp only [decF] at h
    split at h
    · cases h; exact ⟨[], by simp⟩
    · cases h
  | n + 1, L, out, s, X, h => by
    rw [decF] at h
    split at h
    · cases h; exact ⟨[], by simp⟩
    · split at h
      · cases h
      · obtain ⟨m, hm⟩ := dec_out n _ _ _ _ h
        exact ⟨_, by rw [hm, List.append_assoc]⟩
/-- What is read of a block that is the writing of it has the writer's rows. -/
theorem dec_rows {room : Int} : ∀ (n : Nat) (L out : List Fd) (s : ByteArray) (new M : List Fd), okT room L = true → decF room n L out s = some (out ++ new, M) → (encL room L new).1 = s → M = (encL room L new).2 ∧ (∀ f ∈ new, okF f = true) ∧ (out.length ≤ 20 → out.length + new.length ≤ 20)
  | n, L, out, s, [], M, h, hd, he => by
    have hs : s.size = 0 := by rw [← he]; rfl
    have : decF room n L out s = some (out, L) := by cases n <;> simp [decF, hs]
    rw [this] at hd
    simp at hd
    exact ⟨hd.symm, fun f hf => (by cases hf), fun h => by simpa using h⟩
  | n, L, out, s, f :: new, M, h, hd, he => by
    have hL := (okT_parts h).2.2.2.2
    have hE : (encF room L f).1 ++ (encL room (encF room L f).2 new).1 = s := he
    obtain ⟨hpos, _, _⟩ := encF_first (room := room) (f := f) hL (encL room (encF room L f).2 new).1
    have hsz : s.size ≠ 0 := by rw [← hE, ba_size_append]; omega
    cases n with
    | zero => simp [decF, hsz] at hd
    | succ n =>
      rw [decF, if_neg hsz] at hd
      split at hd
      · cases hd
      · rename_i hc
        have hok : okF (fldV L s).1 = true := by
          cases hq : okF (fldV L s).1
          · exact absurd (Or.inr (Or.inl hq)) hc
          · rfl
        have h20 : out.length ≠ 20 := fun e => hc (Or.inr (Or.inr e))
        have hhead : (fldV L s).1 = f := by
          obtain ⟨m, hm⟩ := dec_out n _ _ _ _ hd
          have h2 : (out ++ [(fldV L s).1]) ++ m = out ++ (f :: new) := hm.symm
          simp at h2
          exact h2.1
        rw [hhead] at hok
        have hfl := fld_enc (room := room) hL hok (encL room (encF room L f).2 new).1
        have hrw := encF_rows (room := room) (f := f) hL (encL room (encF room L f).2 new).1
        rw [hE] at hfl hrw
        rw [hfl] at hd
        simp only at hd
        rw [← hrw, Int.toNat_natCast] at hd
        have hx : s.extract (encF room L f).1.size s.size = (encL room (encF room L f).2 new).1 := by rw [← hE]; exact ba_right _ _
        rw [hx, show out ++ f :: new = (out ++ [f]) ++ new by simp] at hd
        obtain ⟨r1, r2, r3⟩ := dec_rows n _ _ _ new M (encF_ok h hok) hd rfl
        refine ⟨r1, fun g hg => ?_, fun hle => ?_⟩
        · rcases List.mem_cons.1 hg with rfl | hg
          · exact hok
          · exact r2 g hg
        · have := r3 (by simp; omega)
          simp at this ⊢
          omega
/-- ENCODED OF DECODED: what was told true is the writing of it, with the same table. -/
theorem law_enc {room : Int} {L g : List Fd} {s : ByteArray} {y : Int × List Fd} (h : decodedD room L s = (g, y, true)) : encodedD room L g = (s, y, true) := by
  unfold decodedD at h
  cases hok : okT room L
  · rw [hok] at h; simp at h
  rw [hok] at h
  simp only [if_true] at h
  cases hd : decF room s.size L [] s with
  | none => rw [hd] at h; simp at h
  | some X =>
    obtain ⟨out, M⟩ := X
    rw [hd] at h
    simp only at h
    split at h
    · rename_i he
      simp only [Prod.mk.injEq, and_true] at h
      obtain ⟨rfl, rfl⟩ := h
      obtain ⟨r1, r2, r3⟩ := dec_rows s.size L [] s out M hok (by simpa using hd) he
      have hfs : okFs out = true := by
        simp only [okFs, Bool.and_eq_true, List.all_eq_true, decide_eq_true_eq]
        exact ⟨r2, by simpa using r3 (by simp)⟩
      unfold encodedD
      rw [hok, hfs]
      simp [he, r1]
    · simp at h

/-- What lies in the rows is found alike. -/
theorem look_mem {L : List Fd} {f : Fd} (h : f ∈ L) : (lookL L f).2 = true := by
  unfold lookL
  split
  · rename_i hz
    have := numOf_none _ L hz f h
    simp [alike] at this
  · rfl
theorem pre_one {n : Int} (h0 : 0 ≤ n) (h1 : n ≤ 111) : (preV n 7 128).size = 1 := by
  have := (law_size (okP_7 h0 h1)).2.2
  have e : pw 7 = 128 := by simp [pw]
  rw [e] at this
  exact this.2 (by omega)
/-- What is in the rows already takes a byte each, and leaves the rows as they are. -/
theorem enc_again {room : Int} : ∀ (l : List Fd) {L : List Fd}, L.length ≤ 111 → (∀ f ∈ l, f ∈ L) → (encL room L l).1.size = l.length ∧ (encL room L l).2 = L
  | [], L, hL, h => ⟨rfl, rfl⟩
  | f :: l, L, hL, h => by
    have hm := look_mem (h f (by simp))
    have hr := look_range L f
    have hE : encF room L f = (preV (lookL L f).1 7 128, L) := by unfold encF; rw [if_pos hm]
    obtain ⟨i1, i2⟩ := enc_again (room := room) l hL (fun g hg => h g (by simp [hg]))
    have e1 : (encL room L (f :: l)).1 = (encF room L f).1 ++ (encL room (encF room L f).2 l).1 := rfl
    have e2 : (encL room L (f :: l)).2 = (encL room (encF room L f).2 l).2 := rfl
    rw [e1, e2, hE]
    simp only
    rw [ba_size_append, pre_one (by omega) (by omega), i1, i2]
    exact ⟨by simp; omega, rfl⟩
/-- A Field takes a byte at least. -/
theorem enc_least {room : Int} : ∀ (l : List Fd) {L : List Fd}, okT room L = true → (∀ f ∈ l, okF f = true) → l.length ≤ (encL room L l).1.size
  | [], L, h, hl => Nat.zero_le _
  | f :: l, L, h, hl => by
    have hf := hl f (by simp)
    have i := enc_least l (encF_ok h hf) (fun g hg => hl g (by simp [hg]))
    have p := (encF_first (room := room) (f := f) (okT_parts h).2.2.2.2 ⟨#[]⟩).1
    have e1 : (encL room L (f :: l)).1 = (encF room L f).1 ++ (encL room (encF room L f).2 l).1 := rfl
    rw [e1, ba_size_append]
    simp
    omega
/-- Where there is room for all, the rows only grow, and hold what was written. -/
theorem enc_grows {room c : Int} : ∀ (l : List Fd) {L : List Fd}, (∀ f ∈ l, wt f ≤ c) → sumW L + c * l.length ≤ room → 0 ≤ c →
    (∀ r ∈ L, r ∈ (encL room L l).2) ∧ (∀ f ∈ l, f ∈ (encL room L l).2) ∧ sumW (encL room L l).2 ≤ sumW L + c * l.length
  | [], L, hl, hs, hc => ⟨fun r hr => hr, fun f hf => (by cases hf), by show sumW L ≤ _; simp⟩
  | f :: l, L, hl, hs, hc => by
    have hw := hl f (by simp)
    have e2 : (encL room L (f :: l)).2 = (encL room (encF room L f).2 l).2 := rfl
    have hlen : c * ((f :: l).length : Int) = c * l.length + c := by simp [Int.mul_add]
    have hnn : 0 ≤ c * (l.length : Int) := Int.mul_nonneg hc (by omega)
    rw [e2]
    rw [hlen] at hs ⊢
    cases hm : (lookL L f).2
    · have hE : (encF room L f).2 = f :: L := by
        unfold encF
        rw [if_neg (by simp [hm])]
        exact shr_stop (by simp only [sumW]; omega)
      rw [hE]
      obtain ⟨i1, i2, i3⟩ := enc_grows (room := room) l (L := f :: L) (fun g hg => hl g (by simp [hg])) (by simp only [sumW]; omega) hc
      refine ⟨fun r hr => i1 r (by simp [hr]), fun g hg => ?_, by simp only [sumW] at i3; omega⟩
      rcases List.mem_cons.1 hg with rfl | hg
      · exact i1 _ (by simp)
      · exact i2 g hg
    · have hE : (encF room L f).2 = L := by unfold encF; rw [if_pos (by simp [hm])]
      rw [hE]
      obtain ⟨i1, i2, i3⟩ := enc_grows (room := room) l (L := L) (fun g hg => hl g (by simp [hg])) (by omega) hc
      refine ⟨i1, fun g hg => ?_, by omega⟩
      rcases List.mem_cons.1 hg with rfl | hg
      · obtain ⟨ha, hb⟩ := look_alike hm
        have hr := look_range L g
        have hk : (lookL L g).1.toNat - 1 < L.length := by omega
        rw [List.getD_eq_getElem?_getD, List.getElem?_eq_getElem hk] at hb
        have : L[(lookL L g).1.toNat - 1] = g := hb
        exact i1 g (this ▸ List.getElem_mem hk)
      · exact i2 g hg
end Go.Proofs.YtllaeakeaabiaaaGreat
/- What the program's Decoded does, in plain words: a Field is read, written again, and held against the bytes; it comes to the same. -/
namespace Go.Proofs.YtllaeakeaabiaaaGreat
open Go.RowKit
set_option maxRecDepth 100000
set_option linter.unusedSimpArgs false
set_option linter.unusedVariables false

/-- The row of this number, or an empty Field. -/
def rowN (L : List Fd) (n : Int) : Fd := if inB n 1 L.length then L.getD (n.toNat - 1) noF else noF
/-- A shape: a row, a row's Name and a Value, both, or none. -/
abbrev BShp := Int ⊕ (Int × ByteArray) ⊕ (ByteArray × ByteArray) ⊕ Unit
abbrev BShp.row (n : Int) : BShp := Sum.inl n
abbrev BShp.name (n : Int) (v : ByteArray) : BShp := Sum.inr (Sum.inl (n, v))
abbrev BShp.whole (n v : ByteArray) : BShp := Sum.inr (Sum.inr (Sum.inl (n, v)))
abbrev BShp.none : BShp := Sum.inr (Sum.inr (Sum.inr ()))
def shpOf (L : List Fd) (f : Fd) : BShp := if (lookL L f).2 = true then BShp.row (lookL L f).1 else if (lookL L f).1 ≠ 0 then BShp.name (lookL L f).1 f.v else BShp.whole f.n f.v
def shpB : BShp → ByteArray
  | Sum.inl n => preV n 7 128
  | Sum.inr (Sum.inl (n, v)) => preV n 6 64 ++ litV v
  | Sum.inr (Sum.inr (Sum.inl (n, v))) => preV 0 6 64 ++ litV n ++ litV v
  | Sum.inr (Sum.inr (Sum.inr _)) => ⟨#[]⟩
def shpNoted : BShp → Bool
  | Sum.inl _ => false
  | _ => true
/-- What a text seems to begin with. -/
def rdShp (s : ByteArray) : BShp :=
  if hiV s 7 = 128 then BShp.row (rdV s 7).1
  else if hiV s 6 ≠ 64 then BShp.none
  else if (rdV s 6).1 ≠ 0 then BShp.name (rdV s 6).1 (rlV (s.extract (rdV s 6).2.toNat s.size)).1
  else BShp.whole (rlV (s.extract (rdV s 6).2.toNat s.size)).1 (rlV (s.extract ((rdV s 6).2 + (rlV (s.extract (rdV s 6).2.toNat s.size)).2).toNat s.size)).1
def mntF (L : List Fd) : BShp → Fd
  | Sum.inl n => rowN L n
  | Sum.inr (Sum.inl (n, v)) => ⟨(rowN L n).n, v⟩
  | Sum.inr (Sum.inr (Sum.inl (n, v))) => ⟨n, v⟩
  | Sum.inr (Sum.inr (Sum.inr _)) => noF
def mnt (L : List Fd) (s : ByteArray) : Fd := mntF L (rdShp s)

theorem shp_enc (room : Int) (L : List Fd) (f : Fd) : encF room L f = (shpB (shpOf L f), if shpNoted (shpOf L f) then shr room (f :: L) else L) := by
  unfold encF shpOf
  split
  · simp [shpB, shpNoted]
  · by_cases h0 : (lookL L f).1 = 0
    · simp [h0, shpB, shpNoted, ba_append_assoc]
    · simp [h0, shpB, shpNoted, ba_nil_append]

theorem b0_range (s : ByteArray) : -1 ≤ b0 s ∧ b0 s ≤ 255 := by
  unfold b0
  cases e : bys s with
  | nil => simp
  | cons x xs => have := bys_range s x (by rw [e]; simp); simp only; omega
/-- Where a Field can be read, it is the one that is meant. -/
theorem mnt_fld {L : List Fd} {s : ByteArray} (hs : 0 < s.size) (hk : (fldV L s).2 ≠ 0) : mnt L s = (fldV L s).1 := by
  have hr := b0_range s
  have h7 : hiV s 7 = b0 s / 128 * 128 := by have := b0_hi (s := s) (b := 7) hs (by omega) (by omega); simpa [pw] using this
  have h6 : hiV s 6 = b0 s / 64 * 64 := by have := b0_hi (s := s) (b := 6) hs (by omega) (by omega); simpa [pw] using this
  unfold fldV at hk ⊢
  unfold mnt rdShp
  split at hk
  · exact absurd rfl hk
  rename_i hb
  split at hk
  · rename_i hb2
    rw [if_neg hb, if_pos hb2, if_pos (by rw [h7]; omega)]
    split at hk
    · exact absurd rfl hk
    · rename_i hc
      rw [if_neg hc]
      simp only [mntF, rowN]
      have hin : inB (rdV s 7).1 1 L.length = true := by
        cases e : inB (rdV s 7).1 1 L.length
        · exact absurd (Or.inr e) hc
        · rfl
      rw [if_pos hin]
  · rename_i hb2
    rw [if_neg hb, if_neg hb2, if_neg (by rw [h7]; omega), if_neg (by rw [h6]; omega)]
    split at hk
    · exact absurd rfl hk
    · rename_i hc
      rw [if_neg hc]
      have hin : inB (rdV s 6).1 0 L.length = true := by
        cases e : inB (rdV s 6).1 0 L.length
        · exact absurd (Or.inr e) hc
        · rfl
      have hin2 := inB_true hin
      split at hk
      · rename_i h0
        rw [if_pos h0, if_neg (by simp [h0])]
        split at hk
        · exact absurd rfl hk
        · rename_i hx
          rw [if_neg hx]
          split at hk
          · exact absurd rfl hk
          · rename_i hy
            rw [if_neg hy]
            rfl
      · rename_i h0
        rw [if_neg h0, if_pos (by simpa using h0)]
        split at hk
        · exact absurd rfl hk
        · rename_i hx
          rw [if_neg hx]
          simp only [mntF, rowN]
          have : inB (rdV s 6).1 1 L.length = true := by unfold inB; simp; omega
          rw [if_pos this]

/-- Does a text begin so? -/
def begins (s p : ByteArray) : Bool := decide (p.size ≤ s.size) && (s.extract 0 p.size).toList == p.toList
theorem begins_yes {s p : ByteArray} (h : begins s p = true) : p.size ≤ s.size ∧ s = p ++ s.extract p.size s.size := by
  unfold begins at h
  simp only [Bool.and_eq_true, decide_eq_true_eq] at h
  refine ⟨h.1, ?_⟩
  have e := tl_eq h.2
  have := ba_split s p.size h.1
  rw [e] at this
  exact this.symm
theorem begins_append (p t : ByteArray) : begins (p ++ t) p = true := by
  unfold begins
  rw [ba_left, ba_size_append]
  simp
/-- The program's way. -/
def decI (room : Int) : Nat → List Fd → List Fd → ByteArray → Option (List Fd × List Fd)
  | 0, L, out, s => if s.size = 0 then some (out, L) else none
  | n + 1, L, out, s =>
    if s.size = 0 then some (out, L)
    else if out.length = 20 ∨ okF (mnt L s) = false then none
    else if begins s (encF room L (mnt L s)).1 = true then decI room n (encF room L (mnt L s)).2 (out ++ [mnt L s]) (s.extract (encF room L (mnt L s)).1.size s.size)
    else none

theorem decI_enc {room : Int} : ∀ (l : List Fd) (L out : List Fd) (n : Nat), okT room L = true → (∀ f ∈ l, okF f = true) → out.length + l.length ≤ 20 → (encL room L l).1.size ≤ n →
    decI room n L out (encL room L l).1 = some (out ++ l, (encL room L l).2)
  | [], L, out, n, h, hl, h20, hn => by
    show decI room n L out ⟨#[]⟩ = some (out ++ [], L)
    rw [List.append_nil]
    cases n <;> (unfold decI; exact if_pos rfl)
  | f :: l, L, out, n, h, hl, h20, hn => by
    have hf := hl f (by simp)
    have hL := (okT_parts h).2.2.2.2
    obtain ⟨hpos, _, _⟩ := encF_first (room := room) (f := f) hL (encL room (encF room L f).2 l).1
    have hfl := fld_enc (room := room) hL hf (encL room (encF room L f).2 l).1
    have hE : (encL room L (f :: l)).1 = (encF room L f).1 ++ (encL room (encF room L f).2 l).1 := rfl
    have hE2 : (encL room L (f :: l)).2 = (encL room (encF room L f).2 l).2 := rfl
    rw [hE] at hn ⊢
    have hm : mnt L ((encF room L f).1 ++ (encL room (encF room L f).2 l).1) = f := by
      rw [mnt_fld (by rw [ba_size_append]; omega) (by rw [hfl]; simp only; omega), hfl]
    rw [ba_size_append] at hn
    cases n with
    | zero => omega
    | succ n =>
      rw [decI, if_neg (by rw [ba_size_append]; omega), hm]
      rw [if_neg (fun h => h.elim (fun h => by simp only [List.length_cons] at h20; omega) (fun h => by rw [hf] at h; cases h)), if_pos (begins_append _ _), ba_right]
      rw [decI_enc l _ _ n (encF_ok h hf) (fun g hg => hl g (by simp [hg])) (by simp only [List.length_append, List.length_cons, List.length_nil] at h20 ⊢; omega) (by omega), hE2]
      simp
/-- What it tells is what was written. -/
theorem decI_is {room : Int} : ∀ (n : Nat) (L out : List Fd) (s : ByteArray) (X : List Fd × List Fd), okT room L = true → decI room n L out s = some X →
    ∃ l, X = (out ++ l, (encL room L l).2) ∧ (encL room L l).1 = s ∧ (∀ f ∈ l, okF f = true) ∧ (out.length ≤ 20 → out.length + l.length ≤ 20)
  | 0, L, out, s, X, h, hd => by
    rw [decI] at hd
    split at hd
    · rename_i hs
      cases hd
      exact ⟨[], by simp [encL], by show (⟨#[]⟩ : ByteArray) = s; rw [ba_empty hs], fun f hf => (by cases hf), fun h => by simpa using h⟩
    · cases hd
  | n + 1, L, out, s, X, h, hd => by
    rw [decI] at hd
    split at hd
    · rename_i hs
      cases hd
      exact ⟨[], by simp [encL], by show (⟨#[]⟩ : ByteArray) = s; rw [ba_empty hs], fun f hf => (by cases hf), fun h => by simpa using h⟩
    · split at hd
      · cases hd
      · rename_i hc
        split at hd
        · rename_i hb
          have hok : okF (mnt L s) = true := by
            cases e : okF (mnt L s)
            · exact absurd (Or.inr e) hc
            · rfl
          have h20 : out.length ≠ 20 := fun e => hc (Or.inl e)
          obtain ⟨l, e1, e2, e3, e4⟩ := decI_is n _ _ _ _ (encF_ok h hok) hd
          obtain ⟨_, hs⟩ := begins_yes hb
          refine ⟨mnt L s :: l, by rw [e1]; simp [encL], ?_, fun f hf => ?_, fun hle => ?_⟩
          · show (encF room L (mnt L s)).1 ++ (encL room (encF room L (mnt L s)).2 l).1 = s
            rw [e2]; exact hs.symm
          · rcases List.mem_cons.1 hf with rfl | hf
            · exact hok
            · exact e3 f hf
          · have := e4 (by simp; omega)
            simp at this ⊢
            omega
        · cases hd
/-- THE PROGRAM'S WAY AND THE MODEL'S COME TO ONE. -/
theorem dec_both {room : Int} {L : List Fd} (s : ByteArray) (h : okT room L = true) :
    decodedD room L s = match decI room s.size L [] s with | some (out, M) => (out, (room, M), true) | none => ([], (room, L), false) := by
  cases hi : decI room s.size L [] s with
  | some X =>
    obtain ⟨l, e1, e2, e3, e4⟩ := decI_is _ _ _ _ _ h hi
    subst e1
    have hl : okFs l = true := by simp only [okFs, Bool.and_eq_true, List.all_eq_true, decide_eq_true_eq]; exact ⟨e3, by simpa using e4 (by simp)⟩
    have := law_dec h hl
    have hE : encodedD room L l = ((encL room L l).1, (room, (encL room L l).2), true) := by simp [encodedD, h, hl]
    rw [hE] at this
    simp only at this
    rw [e2] at this
    rw [this]
    simp
  | none =>
    simp only
    have hn : ∀ g y, decodedD room L s ≠ (g, y, true) := by
      intro g y hd
      have he := law_enc hd
      unfold encodedD at he
      rw [h] at he
      simp only [if_true] at he
      split at he
      · rename_i hg
        simp only [Prod.mk.injEq, and_true] at he
        have hg' : (∀ f ∈ g, okF f = true) ∧ g.length ≤ 20 := by simpa [okFs] using hg
        have := decI_enc g L [] s.size h hg'.1 (by simpa using hg'.2) (by rw [he.1]; exact Nat.le_refl _)
        rw [he.1, hi] at this
        cases this
      · simp at he
    unfold decodedD at hn ⊢
    rw [if_pos h] at hn ⊢
    cases hd : decF room s.size L [] s with
    | none => rfl
    | some X =>
      obtain ⟨out, M⟩ := X
      rw [hd] at hn
      simp only at hn ⊢
      split
      · rename_i he
        rw [if_pos he] at hn
        exact absurd rfl (hn out (room, M))
      · rfl
theorem resized_own {room : Int} {L : List Fd} (h : okT room L = true) : resizedD room L room = ((room, L), true) := by
  obtain ⟨h0, h1, _, h3, _⟩ := okT_parts h
  have hr : inB room 0 1000 = true := by unfold inB; simp; omega
  simp only [resizedD, h, hr, if_true]
  rw [shr_stop (by omega)]
theorem resized_no {room : Int} {L : List Fd} (h : okT room L = false) : resizedD room L room = ((0, []), false) := by simp [resizedD, h]
end Go.Proofs.YtllaeakeaabiaaaGreat
