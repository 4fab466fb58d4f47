/- Chapter 19, in plain words: what Frames of a text have together. -/
import Derived.Test.YtbnfdakaloeocaaFrameMath
import Derived.Test.YtbnfdakaloeocaaFrLen
namespace Go.Proofs.Ytbnfdakaloeocaa
open Go.RowKit
set_option maxRecDepth 100000
set_option linter.unusedSimpArgs false
set_option linter.unusedVariables false

/-- Is it a Frame of this Kind, of this Stream? -/
def isF (k id : Int) (f : Fr) : Bool := decide (f.k = k) && decide (f.st = id)
/-- A sum over those. -/
def sumF (k id : Int) (g : Fr → Int) : List Fr → Int
  | [] => 0
  | f :: L => (if isF k id f then g f else 0) + sumF k id g L
theorem sumF_app (k id : Int) (g : Fr → Int) (A B : List Fr) : sumF k id g (A ++ B) = sumF k id g A + sumF k id g B := by
  induction A with
  | nil => simp [sumF]
  | cons f A ih => simp only [List.cons_append, sumF, ih]; omega
theorem sumF_take (k id : Int) (g : Fr → Int) (L : List Fr) (i : Nat) (h : i < L.length) : sumF k id g (L.take (i + 1)) = sumF k id g (L.take i) + (if isF k id L[i] then g L[i] else 0) := by
  rw [List.take_succ_eq_append_getElem h, sumF_app]
  simp [sumF]
theorem sumF_range {k id M : Int} {g : Fr → Int} {L : List Fr} (h0 : 0 ≤ M) (hg : ∀ f ∈ L, -M ≤ g f ∧ g f ≤ M) : -(L.length * M) ≤ sumF k id g L ∧ sumF k id g L ≤ L.length * M := by
  induction L with
  | nil => simp [sumF]
  | cons f L ih =>
    have i1 := ih fun x hx => hg x (List.mem_cons_of_mem _ hx)
    have i2 := hg f (List.mem_cons_self ..)
    have e : ((f :: L).length : Int) * M = L.length * M + M := by
      rw [List.length_cons]; push_cast; rw [Int.add_mul, Int.one_mul]
    rw [e]
    simp only [sumF]
    split <;> omega
theorem sumF_small {k id M : Int} {g : Fr → Int} {L : List Fr} (h0 : 0 ≤ M) (hM : M ≤ 4294967296) (hg : ∀ f ∈ L, -M ≤ g f ∧ g f ≤ M) (hl : L.length ≤ 2097152) : -9007199254740992 ≤ sumF k id g L ∧ sumF k id g L ≤ 9007199254740992 := by
  have h := sumF_range (k := k) (id := id) h0 hg
  have h1 : (L.length : Int) * M ≤ 2097152 * 4294967296 := Int.mul_le_mul (by omega) hM h0 (by omega)
  omega

/-- Frames of a text. -/
def frsV (s : ByteArray) : List Fr := (frmV s).1
theorem frsV_ok {s : ByteArray} : ∀ f ∈ frsV s, okFr f = true := (law_told s.size s (Nat.le_refl _)).1
theorem frsV_len (s : ByteArray) : (frsV s).length ≤ s.size := frm_len s.size s (Nat.le_refl _)
theorem ok_body {f : Fr} (h : okFr f = true) : f.b.size ≤ 1000 := by
  have := hd_parts (ok_head h)
  omega
theorem ok_flags {f : Fr} (h : okFr f = true) : 0 ≤ f.fl ∧ f.fl ≤ 3 := by
  have := hd_parts (ok_head h)
  omega
theorem numV_small (s : ByteArray) : -4294967296 ≤ numV s ∧ numV s ≤ 4294967296 := by
  by_cases h : s.size ≤ 4
  · have h1 := numV_range h
    have h2 : (256 : Int) ^ s.size ≤ 256 ^ 4 := by
      have : ∀ n : Nat, n ≤ 4 → (256 : Int) ^ n ≤ 256 ^ 4 := by decide
      exact this _ h
    have : (256 : Int) ^ 4 = 4294967296 := by decide
    omega
  · rw [numV_long (by omega)]; omega

def bodN (f : Fr) : Int := f.b.size
def numN (f : Fr) : Int := numV f.b
def owedV (s : ByteArray) (id : Int) : Int := sumF 1 id bodN (frsV s)
def grantsV (s : ByteArray) (id : Int) : Int := sumF 7 id numN (frsV s)
theorem mem_take {L : List Fr} {i : Nat} {f : Fr} (h : f ∈ L.take i) : f ∈ L := List.mem_of_mem_take h
theorem owed_small {s : ByteArray} (hs : s.size ≤ 2097152) (id : Int) (i : Nat) : -9007199254740992 ≤ sumF 1 id bodN ((frsV s).take i) ∧ sumF 1 id bodN ((frsV s).take i) ≤ 9007199254740992 := by
  refine sumF_small (M := 1000) (by omega) (by omega) (fun f hf => ?_) ?_
  · have := ok_body (frsV_ok f (mem_take hf)); unfold bodN; omega
  · have := frsV_len s; have : ((frsV s).take i).length ≤ (frsV s).length := by rw [List.length_take]; omega
    omega
theorem grants_small {s : ByteArray} (hs : s.size ≤ 2097152) (id : Int) (i : Nat) : -9007199254740992 ≤ sumF 7 id numN ((frsV s).take i) ∧ sumF 7 id numN ((frsV s).take i) ≤ 9007199254740992 := by
  refine sumF_small (M := 4294967296) (by omega) (by omega) (fun f hf => ?_) ?_
  · have := numV_small f.b; unfold numN; omega
  · have := frsV_len s; have : ((frsV s).take i).length ≤ (frsV s).length := by rw [List.length_take]; omega
    omega
theorem wrap_mid {n : Int} (h0 : -9223372036854775808 ≤ n) (h1 : n ≤ 9223372036854775807) : IntKind.i64.wrap n = n := by
  rw [IntKind.wrap_i64]; omega

/-- What is spoken of a row of Frames: the bytes, and did it end? -/
def spkL (id : Int) : List Fr → ByteArray
  | [] => ⟨#[]⟩
  | f :: L => (if isF 1 id f then payV f else ⟨#[]⟩) ++ spkL id L
def endL (id : Int) : List Fr → Bool
  | [] => false
  | f :: L => (isF 1 id f && decide (f.fl % 2 = 1)) || endL id L
theorem spkL_app (id : Int) (A B : List Fr) : spkL id (A ++ B) = spkL id A ++ spkL id B := by
  induction A with
  | nil => exact (ba_nil_append _).symm
  | cons f A ih => simp only [List.cons_append, spkL, ih, ba_append_assoc]
theorem spkL_take (id : Int) (L : List Fr) (i : Nat) (h : i < L.length) : spkL id (L.take (i + 1)) = spkL id (L.take i) ++ (if isF 1 id L[i] then payV L[i] else ⟨#[]⟩) := by
  rw [List.take_succ_eq_append_getElem h, spkL_app]
  simp only [spkL, ba_append_nil]
theorem endL_app (id : Int) (A B : List Fr) : endL id (A ++ B) = (endL id A || endL id B) := by
  induction A with
  | nil => rfl
  | cons f A ih => simp only [List.cons_append, endL, ih, Bool.or_assoc]
theorem endL_take (id : Int) (L : List Fr) (i : Nat) (h : i < L.length) : endL id (L.take (i + 1)) = (endL id (L.take i) || (isF 1 id L[i] && decide (L[i].fl % 2 = 1))) := by
  rw [List.take_succ_eq_append_getElem h, endL_app]
  simp [endL]
theorem ba_size_nil : (⟨#[]⟩ : ByteArray).size = 0 := rfl
theorem spkL_size (id : Int) (L : List Fr) (h : ∀ f ∈ L, okFr f = true) : (spkL id L).size ≤ L.length * 1000 := by
  induction L with
  | nil => exact Nat.zero_le _
  | cons f L ih =>
    have i1 := ih fun x hx => h x (List.mem_cons_of_mem _ hx)
    have i2 := ok_body (h f (List.mem_cons_self ..))
    have i3 := pay_le f
    simp only [spkL]
    rw [ba_size_append, List.length_cons]
    split
    · omega
    · rw [ba_size_nil]; omega
theorem spkL_small {s : ByteArray} (hs : s.size ≤ 2097152) (id : Int) (i : Nat) : (spkL id ((frsV s).take i)).size ≤ 2097152000 := by
  have h := spkL_size id ((frsV s).take i) fun f hf => frsV_ok f (mem_take hf)
  have := frsV_len s; have : ((frsV s).take i).length ≤ (frsV s).length := by rw [List.length_take]; omega
  omega
def saidV (s : ByteArray) (id : Int) : ByteArray := spkL id (frsV s)
def endedV (s : ByteArray) (id : Int) : Bool := endL id (frsV s)
end Go.Proofs.Ytbnfdakaloeocaa
