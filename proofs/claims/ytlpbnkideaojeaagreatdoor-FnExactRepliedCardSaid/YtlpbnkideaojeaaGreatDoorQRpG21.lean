/- Lemmas. -/
import Derived.Test.YtlpbnkideaojeaaGreatDoorQRpBM
namespace Go.Proofs.YtlpbnkideaojeaaGreatDoor
open Go.RowKit
set_option maxRecDepth 100000
set_option linter.unusedSimpArgs false
set_option linter.unusedVariables false
structure aV where
 id : Int
 get : Int
 give : Int
 fds : List Fd
 tun : jh
 ended : Bool
structure aH where
 reg : bZ
 inr : Int
 inT : List Fd
 au : Int
 outT : List Fd
 get : Int
 give : Int
 first : Int
 flows : List aV
 away : Bool
 dead : Bool
def vP : aH := ⟨⟨0, 0, []⟩, 0, [], 0, [], 0, 0, 0, [], false, false⟩
def gN (f : aV) (e : aF) : Bool := decide (f.id = e.id) && fP f.get && fP f.give && dZ f.fds && jJ f.tun
def eX : List aV → List aF → Bool
 | [], [] => true
 | f :: fs, e :: es => gN f e && eX fs es
 | _, _ => false
def dV (c : aH) : Bool := fE c.reg && bI c.inr c.inT && bI c.au c.outT && fP c.get && fP c.give && aQ c.first 0 16777215 && eX c.flows c.reg.es
theorem Dj : ∀ {fs : List aV} {es : List aF}, eX fs es = true → fs.length = es.length
 | [], [], _ => rfl
 | f :: fs, e :: es, h => by
  simp only [eX, Bool.and_eq_true] at h
  simp [Dj h.2]
 | [], _ :: _, h => by simp [eX] at h
 | _ :: _, [], h => by simp [eX] at h
theorem Dk : ∀ {fs : List aV} {es : List aF}, eX fs es = true → ∀ i (h : i < fs.length) (h' : i < es.length), gN fs[i] es[i] = true
 | [], _, _, i, h, _ => absurd h (Nat.not_lt_zero _)
 | f :: fs, [], h, _, _, _ => by simp [eX] at h
 | f :: fs, e :: es, h, i, h1, h2 => by
  simp only [eX, Bool.and_eq_true] at h
  cases i with
  | zero => exact h.1
  | succ i => exact Dk h.2 i (by simpa using h1) (by simpa using h2)
theorem Gi : ∀ {fs : List aV} {es : List aF}, fs.length = es.length → (∀ i (h : i < fs.length) (h' : i < es.length), gN fs[i] es[i] = true) → eX fs es = true
 | [], [], _, _ => rfl
 | f :: fs, e :: es, hl, h => by
  simp only [eX, Bool.and_eq_true]
  exact ⟨h 0 (by simp) (by simp), Gi (by simpa using hl) fun i h1 h2 => h (i + 1) (by simpa using h1) (by simpa using h2)⟩
 | [], _ :: _, hl, _ => by simp at hl
 | _ :: _, [], hl, _ => by simp at hl
def oD (c : aH) (id ev : Int) : aH := { c with reg := (gq c.reg id ev).1 }
end Go.Proofs.YtlpbnkideaojeaaGreatDoor
