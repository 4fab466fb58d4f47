/- Lemmas. -/
import Derived.Test.YtlpbnkideaojeaaGreatDoorQRpLL
namespace Go.Proofs.YtlpbnkideaojeaaGreatDoor
open Go.RowKit
set_option maxRecDepth 100000
set_option linter.unusedSimpArgs false
set_option linter.unusedVariables false
def b0 (s : ByteArray) : Int := match cB s with | [] => -1 | x :: _ => x
theorem NJ {a : ByteArray} (t : ByteArray) (h : 0 < a.size) : b0 (a ++ t) = b0 a := by
  unfold b0
  rw [kZ]
  cases e : cB a with
  | nil => have := mJ a; rw [e] at this; simp at this; omega
  | cons x xs => rfl
theorem NK {s : ByteArray} {b : Int} (h : 0 < s.size) (h1 : 1 ≤ b) (h8 : b ≤ 8) : nE s b = b0 s / pw b * pw b := by
  rw [Vm h h1 h8]
  unfold b0
  rw [GV h]
def bP (room : Int) (L : List Fd) (f : Fd) : ByteArray × List Fd :=
  if (bn L f).2 = true then (aY (bn L f).1 7 128, L)
  else (aY (bn L f).1 6 64 ++ ((if (bn L f).1 = 0 then aU f.n else ⟨#[]⟩) ++ aU f.v), shr room (f :: L))
def bA (room : Int) : List Fd → List Fd → ByteArray × List Fd
  | L, [] => (⟨#[]⟩, L)
  | L, f :: fs => ((bP room L f).1 ++ (bA room (bP room L f).2 fs).1, (bA room (bP room L f).2 fs).2)
def dZ (l : List Fd) : Bool := l.all okF && decide (l.length ≤ 20)
def kg (room : Int) (L l : List Fd) : ByteArray × (Int × List Fd) × Bool :=
  if bI room L then (if dZ l then ((bA room L l).1, (room, (bA room L l).2), true) else (⟨#[]⟩, (room, L), false)) else (⟨#[]⟩, (0, []), false)
def oU : Fd := ⟨⟨#[]⟩, ⟨#[]⟩⟩
def uI (L : List Fd) (s : ByteArray) : Fd × Int :=
  if b0 s < 64 then (oU, 0)
  else if 128 ≤ b0 s then (if (dQ s 7).2 = 0 ∨ aQ (dQ s 7).1 1 L.length = false then (oU, 0) else (L.getD ((dQ s 7).1.toNat - 1) oU, (dQ s 7).2))
  else if (dQ s 6).2 = 0 ∨ aQ (dQ s 6).1 0 L.length = false then (oU, 0)
  else if (dQ s 6).1 = 0 then
    (if (mg (s.extract (dQ s 6).2.toNat s.size)).2 = 0 then (oU, 0)
     else if (mg (s.extract ((dQ s 6).2 + (mg (s.extract (dQ s 6).2.toNat s.size)).2).toNat s.size)).2 = 0 then (oU, 0)
     else (⟨(mg (s.extract (dQ s 6).2.toNat s.size)).1, (mg (s.extract ((dQ s 6).2 + (mg (s.extract (dQ s 6).2.toNat s.size)).2).toNat s.size)).1⟩, (dQ s 6).2 + (mg (s.extract (dQ s 6).2.toNat s.size)).2 + (mg (s.extract ((dQ s 6).2 + (mg (s.extract (dQ s 6).2.toNat s.size)).2).toNat s.size)).2))
  else (if (mg (s.extract (dQ s 6).2.toNat s.size)).2 = 0 then (oU, 0)
     else (⟨(L.getD ((dQ s 6).1.toNat - 1) oU).n, (mg (s.extract (dQ s 6).2.toNat s.size)).1⟩, (dQ s 6).2 + (mg (s.extract (dQ s 6).2.toNat s.size)).2))
theorem Hr (L : List Fd) (f : Fd) : 0 ≤ (bn L f).1 ∧ (bn L f).1 ≤ L.length := by
  unfold bn
  have h1 := Ht (alike f) L
  have h2 := Ht (named f) L
  split <;> simp only <;> omega
theorem Xx {L : List Fd} {f : Fd} (h : (bn L f).2 = true) : 1 ≤ (bn L f).1 ∧ L.getD ((bn L f).1.toNat - 1) oU = f := by
  unfold bn at h ⊢
  split at h
  · cases h
  · rename_i hz
    rw [if_neg hz]
    obtain ⟨hk, hv⟩ := NM (alike f) L hz
    simp only [alike, Bool.and_eq_true] at hv
    refine ⟨by show (1 : Int) ≤ (numOf (alike f) L : Int); omega, ?_⟩
    show L.getD (numOf (alike f) L - 1) oU = f
    rw [List.getD_eq_getElem?_getD, List.getElem?_eq_getElem hk]
    show L[numOf (alike f) L - 1] = f
    have e1 := GY hv.1
    have e2 := GY hv.2
    revert e1 e2
    cases f
    generalize L[numOf _ L - 1] = r
    cases r
    rintro rfl rfl
    rfl
theorem Xy {L : List Fd} {f : Fd} (h : (bn L f).2 = false) (h0 : (bn L f).1 ≠ 0) : 1 ≤ (bn L f).1 ∧ (L.getD ((bn L f).1.toNat - 1) oU).n = f.n := by
  unfold bn at h h0 ⊢
  split at h
  · rename_i hz
    rw [if_pos hz] at h0 ⊢
    simp only at h0 ⊢
    obtain ⟨hk, hv⟩ := NM (named f) L (by omega)
    refine ⟨by omega, ?_⟩
    rw [Int.toNat_natCast, List.getD_eq_getElem?_getD, List.getElem?_eq_getElem hk]
    exact GY hv
  · cases h
theorem D6 {n : Int} (h0 : 0 ≤ n) (h1 : n ≤ 111) : jl n 7 128 = true := by simp [jl, rR, aQ, pw]; omega
theorem D7 {n : Int} (h0 : 0 ≤ n) (h1 : n ≤ 111) : jl n 6 64 = true := by simp [jl, rR, aQ, pw]; omega
theorem Xz {n : Int} (h0 : 0 ≤ n) (h1 : n ≤ 111) (t : ByteArray) : 128 ≤ b0 (aY n 7 128 ++ t) := by
  have ho := D6 h0 h1
  have hp := (mO ho).1
  rw [NJ t hp]
  have h := Hu ho
  rw [NK hp (by omega) (by omega)] at h
  have e : pw 7 = 128 := by simp [pw]
  rw [e] at h
  omega
theorem XA {n : Int} (h0 : 0 ≤ n) (h1 : n ≤ 111) (t : ByteArray) : 64 ≤ b0 (aY n 6 64 ++ t) ∧ b0 (aY n 6 64 ++ t) < 128 := by
  have ho := D7 h0 h1
  have hp := (mO ho).1
  rw [NJ t hp]
  have h := Hu ho
  rw [NK hp (by omega) (by omega)] at h
  have e : pw 6 = 64 := by simp [pw]
  rw [e] at h
  omega
theorem Hw {room : Int} {L : List Fd} {f : Fd} (hL : L.length ≤ 111) (t : ByteArray) : 0 < (bP room L f).1.size ∧ 64 ≤ b0 ((bP room L f).1 ++ t) ∧ (b0 ((bP room L f).1 ++ t) < 128 ↔ (bn L f).2 = false) := by
  have hr := Hr L f
  unfold bP
  cases hl : (bn L f).2
  · rw [if_neg (by simp)]
    simp only
    have hb := XA (n := (bn L f).1) (by omega) (by omega) (((if (bn L f).1 = 0 then aU f.n else ⟨#[]⟩) ++ aU f.v) ++ t)
    rw [← nG] at hb
    have hs := (mO (D7 (n := (bn L f).1) (by omega) (by omega))).1
    exact ⟨by rw [iZ]; omega, hb.1, by simp; exact hb.2⟩
  · rw [if_pos rfl]
    simp only
    have hb := Xz (n := (bn L f).1) (by omega) (by omega) t
    exact ⟨(mO (D6 (n := (bn L f).1) (by omega) (by omega))).1, by omega, by simp; omega⟩
theorem XB {room : Int} {L : List Fd} {f : Fd} (hL : L.length ≤ 111) (hf : okF f = true) (t : ByteArray) : uI L ((bP room L f).1 ++ t) = (f, ((bP room L f).1.size : Int)) := by
  have hr := Hr L f
  obtain ⟨hn1, hn2, hv2⟩ := qF hf
  obtain ⟨hpos, hb64, NP⟩ := Hw (room := room) (f := f) hL t
  cases hl : (bn L f).2
  · have hlt := NP.2 hl
    have hE : (bP room L f).1 = aY (bn L f).1 6 64 ++ ((if (bn L f).1 = 0 then aU f.n else ⟨#[]⟩) ++ aU f.v) := by unfold bP; rw [if_neg (by simp [hl])]
    have ho := D7 (n := (bn L f).1) (by omega) (by omega)
    have hrd : dQ ((bP room L f).1 ++ t) 6 = ((bn L f).1, ((aY (bn L f).1 6 64).size : Int)) := by rw [hE, nG]; exact D8 ho _
    have hk := (mO ho).1
    unfold uI
    rw [if_neg (by omega), if_neg (by omega), hrd]
    simp only
    rw [if_neg (fun h => h.elim (fun h => by omega) (fun h => by have := rX h; omega))]
    by_cases h0 : (bn L f).1 = 0
    · have hE0 : (bP room L f).1 ++ t = aY (bn L f).1 6 64 ++ (aU f.n ++ (aU f.v ++ t)) := by rw [hE, if_pos h0, nG, nG]
      have hsz : (bP room L f).1.size = (aY (bn L f).1 6 64).size + (aU f.n).size + (aU f.v).size := by rw [hE, if_pos h0, iZ, iZ]; omega
      have x1 : ((bP room L f).1 ++ t).extract (aY (bn L f).1 6 64).size ((bP room L f).1 ++ t).size = aU f.n ++ (aU f.v ++ t) := by rw [hE0]; exact DN _ _
      have y1 := Hy (s := f.n) (aU f.v ++ t) (by omega)
      have x2 : ((bP room L f).1 ++ t).extract ((aY (bn L f).1 6 64).size + (aU f.n).size) ((bP room L f).1 ++ t).size = aU f.v ++ t := by
        rw [hE0, ← nG, ← iZ]; exact DN _ _
      have y2 := Hy (s := f.v) t (by omega)
      have p1 : 0 < (aU f.n).size := Hz (by omega)
      have p2 : 0 < (aU f.v).size := Hz (by omega)
      rw [if_pos h0, Int.toNat_natCast, x1, y1]
      simp only
      rw [if_neg (by omega)]
      have e3 : ((aY (bn L f).1 6 64).size + ((aU f.n).size : Int)).toNat = (aY (bn L f).1 6 64).size + (aU f.n).size := by omega
      rw [e3, x2, y2]
      simp only
      rw [if_neg (by omega), hsz]
      simp
    · have hnm := Xy hl h0
      have hE0 : (bP room L f).1 ++ t = aY (bn L f).1 6 64 ++ (aU f.v ++ t) := by rw [hE, if_neg h0, Am, nG]
      have hsz : (bP room L f).1.size = (aY (bn L f).1 6 64).size + (aU f.v).size := by rw [hE, if_neg h0, Am, iZ]
      have x1 : ((bP room L f).1 ++ t).extract (aY (bn L f).1 6 64).size ((bP room L f).1 ++ t).size = aU f.v ++ t := by rw [hE0]; exact DN _ _
      have y1 := Hy (s := f.v) t (by omega)
      have p2 : 0 < (aU f.v).size := Hz (by omega)
      rw [if_neg h0, Int.toNat_natCast, x1, y1]
      simp only
      rw [if_neg (by omega), hsz, hnm.2]
      simp
  · have hge : ¬ b0 ((bP room L f).1 ++ t) < 128 := fun h => by have := NP.1 h; rw [hl] at this; cases this
    have hE : (bP room L f).1 = aY (bn L f).1 7 128 := by unfold bP; rw [if_pos (by simp [hl])]
    have hal := Xx hl
    have ho := D6 (n := (bn L f).1) (by omega) (by omega)
    have hrd : dQ ((bP room L f).1 ++ t) 7 = ((bn L f).1, ((aY (bn L f).1 7 128).size : Int)) := by rw [hE]; exact D8 ho _
    have hk := (mO ho).1
    unfold uI
    rw [if_neg (by omega), if_pos (by omega), hrd]
    simp only
    rw [if_neg (fun h => h.elim (fun h => by omega) (fun h => by have := rX h; omega)), hal.2, hE]
theorem XC {room : Int} {L : List Fd} {f : Fd} (hL : L.length ≤ 111) (t : ByteArray) : (bP room L f).2 = if b0 ((bP room L f).1 ++ t) < 128 then shr room (f :: L) else L := by
  obtain ⟨_, _, h⟩ := Hw (room := room) (f := f) hL t
  cases hl : (bn L f).2
  · rw [if_pos (h.2 hl)]; unfold bP; rw [if_neg (by simp [hl])]
  · rw [if_neg (fun k => by have := h.1 k; rw [hl] at this; cases this)]; unfold bP; rw [if_pos (by simp [hl])]
theorem NQ {room : Int} {L : List Fd} {f : Fd} (h : bI room L = true) (hf : okF f = true) : bI room (bP room L f).2 = true := by
  unfold bP
  split
  · exact h
  · obtain ⟨N, e, hN, _⟩ := XD h hf
    simp only [lS, h, hf, if_true, Prod.mk.injEq, true_and, and_true] at e
    rw [e]; exact hN
theorem xW {room : Int} : ∀ (l : List Fd) {L : List Fd}, bI room L = true → (∀ f ∈ l, okF f = true) → bI room (bA room L l).2 = true
  | [], L, h, _ => h
  | f :: l, L, h, hl => xW l (NQ h (hl f (by simp))) (fun g hg => hl g (by simp [hg]))
def yF (room : Int) : Nat → List Fd → List Fd → ByteArray → Option (List Fd × List Fd)
  | 0, L, out, s => if s.size = 0 then some (out, L) else none
  | n + 1, L, out, s =>
    if s.size = 0 then some (out, L)
    else if (uI L s).2 = 0 ∨ okF (uI L s).1 = false ∨ out.length = 20 then none
    else yF room n (if b0 s < 128 then shr room ((uI L s).1 :: L) else L) (out ++ [(uI L s).1]) (s.extract (uI L s).2.toNat s.size)
def H6 (room : Int) (L : List Fd) (s : ByteArray) : List Fd × (Int × List Fd) × Bool :=
  if bI room L then
    (match yF room s.size L [] s with
     | some (out, M) => if (bA room L out).1 = s then (out, (room, M), true) else ([], (room, L), false)
     | none => ([], (room, L), false))
  else ([], (0, []), false)
theorem NR {room : Int} : ∀ (l : List Fd) (L out : List Fd) (n : Nat), bI room L = true → (∀ f ∈ l, okF f = true) → out.length + l.length ≤ 20 → (bA room L l).1.size ≤ n →
    yF room n L out (bA room L l).1 = some (out ++ l, (bA room L l).2)
  | [], L, out, n, h, hl, h20, hn => by
    show yF room n L out ⟨#[]⟩ = some (out ++ [], L)
    rw [List.append_nil]
    cases n <;> (unfold yF; exact if_pos rfl)
  | f :: l, L, out, n, h, hl, h20, hn => by
    have hf := hl f (by simp)
    have hL := (mE h).2.2.2.2
    obtain ⟨hpos, _, _⟩ := Hw (room := room) (f := f) hL (bA room (bP room L f).2 l).1
    have hfl := XB (room := room) hL hf (bA room (bP room L f).2 l).1
    have hrw := XC (room := room) (f := f) hL (bA room (bP room L f).2 l).1
    have hE : (bA room L (f :: l)).1 = (bP room L f).1 ++ (bA room (bP room L f).2 l).1 := rfl
    have hE2 : (bA room L (f :: l)).2 = (bA room (bP room L f).2 l).2 := rfl
    rw [hE] at hn ⊢
    rw [iZ] at hn
    cases n with
    | zero => omega
    | succ n =>
      rw [yF, if_neg (by rw [iZ]; omega), hfl]
      simp only
      rw [if_neg (fun h => h.elim (fun h => by omega) (fun h => h.elim (fun h => by rw [hf] at h; cases h) (fun h => by simp only [List.length_cons] at h20; omega))), ← hrw, Int.toNat_natCast, DN]
      rw [NR l _ _ n (NQ h hf) (fun g hg => hl g (by simp [hg])) (by simp only [List.length_append, List.length_cons, List.length_nil] at h20 ⊢; omega) (by omega), hE2]
      simp
theorem XE {room : Int} {L l : List Fd} (h : bI room L = true) (hl : dZ l = true) : H6 room L (kg room L l).1 = (l, (kg room L l).2.1, true) := by
  simp only [dZ, Bool.and_eq_true, List.all_eq_true, decide_eq_true_eq] at hl
  have hok : dZ l = true := by simp only [dZ, Bool.and_eq_true, List.all_eq_true, decide_eq_true_eq]; exact hl
  have hE : kg room L l = ((bA room L l).1, (room, (bA room L l).2), true) := by simp [kg, h, hok]
  rw [hE]
  unfold H6
  rw [if_pos h, NR l L [] _ h hl.1 (by simpa using hl.2) (Nat.le_refl _)]
  simp
abbrev iE := Int ⊕ (Int × ByteArray) ⊕ (ByteArray × ByteArray) ⊕ Unit
abbrev iE.row (n : Int) : iE := Sum.inl n
abbrev iE.name (n : Int) (v : ByteArray) : iE := Sum.inr (Sum.inl (n, v))
abbrev iE.whole (n v : ByteArray) : iE := Sum.inr (Sum.inr (Sum.inl (n, v)))
abbrev iE.none : iE := Sum.inr (Sum.inr (Sum.inr ()))
def qH (L : List Fd) (f : Fd) : iE := if (bn L f).2 = true then iE.row (bn L f).1 else if (bn L f).1 ≠ 0 then iE.name (bn L f).1 f.v else iE.whole f.n f.v
def nX : iE → ByteArray
  | Sum.inl n => aY n 7 128
  | Sum.inr (Sum.inl (n, v)) => aY n 6 64 ++ aU v
  | Sum.inr (Sum.inr (Sum.inl (n, v))) => aY 0 6 64 ++ aU n ++ aU v
  | Sum.inr (Sum.inr (Sum.inr _)) => ⟨#[]⟩
def D9 : iE → Bool
  | Sum.inl _ => false
  | _ => true
theorem XF (room : Int) (L : List Fd) (f : Fd) : bP room L f = (nX (qH L f), if D9 (qH L f) then shr room (f :: L) else L) := by
  unfold bP qH
  split
  · simp [nX, D9]
  · by_cases h0 : (bn L f).1 = 0
    · simp [h0, nX, D9, nG]
    · simp [h0, nX, D9, Am]
def begins (s p : ByteArray) : Bool := decide (p.size ≤ s.size) && (s.extract 0 p.size).toList == p.toList
theorem XG {room : Int} {L : List Fd} (h : bI room L = true) : jH room L room = ((room, L), true) := by
  obtain ⟨h0, h1, _, h3, _⟩ := mE h
  have hr : aQ room 0 1000 = true := by unfold aQ; simp; omega
  simp only [jH, h, hr, if_true]
  rw [zq (by omega)]
theorem XH {room : Int} {L : List Fd} (h : bI room L = false) : jH room L room = ((0, []), false) := by simp [jH, h]
end Go.Proofs.YtlpbnkideaojeaaGreatDoor
