/- Connections in plain words: which is right, what each frame does to it, what is taken, replied, given and flushed. -/
import Derived.Test.YtkhclhnejnpkeaaGreatQWtG7
import Derived.Test.YtkhclhnejnpkeaaGreatQWtG3
import Derived.Test.YtkhclhnejnpkeaaGreatQWtBM
import Derived.Test.YtkhclhnejnpkeaaGreatQWtG2
namespace Go.Proofs.YtkhclhnejnpkeaaGreat
open Go.RowKit
set_option maxRecDepth 100000
set_option linter.unusedSimpArgs false
set_option linter.unusedVariables false

/-- A Flow. -/
structure FlD where
  id : Int
  get : Int
  give : Int
  fds : List Fd
  tun : TuD
  ended : Bool
/-- A Conn. -/
structure CnD where
  reg : RegistryD
  inr : Int
  inT : List Fd
  outr : Int
  outT : List Fd
  get : Int
  give : Int
  first : Int
  flows : List FlD
  away : Bool
  dead : Bool
def zCn : CnD := ⟨⟨0, 0, []⟩, 0, [], 0, [], 0, 0, 0, [], false, false⟩
def okFl (f : FlD) (e : EntryD) : Bool := decide (f.id = e.id) && winB f.get && winB f.give && okFs f.fds && okTu f.tun
def okFls : List FlD → List EntryD → Bool
  | [], [] => true
  | f :: fs, e :: es => okFl f e && okFls fs es
  | _, _ => false
def okCn (c : CnD) : Bool := okRg c.reg && okT c.inr c.inT && okT c.outr c.outT && winB c.get && winB c.give && inB c.first 0 16777215 && okFls c.flows c.reg.es
theorem okFls_len : ∀ {fs : List FlD} {es : List EntryD}, okFls fs es = true → fs.length = es.length
  | [], [], _ => rfl
  | f :: fs, e :: es, h => by
    simp only [okFls, Bool.and_eq_true] at h
    simp [okFls_len h.2]
  | [], _ :: _, h => by simp [okFls] at h
  | _ :: _, [], h => by simp [okFls] at h
theorem okFls_get : ∀ {fs : List FlD} {es : List EntryD}, okFls fs es = true → ∀ i (h : i < fs.length) (h' : i < es.length), okFl fs[i] es[i] = true
  | [], _, _, i, h, _ => absurd h (Nat.not_lt_zero _)
  | f :: fs, [], h, _, _, _ => by simp [okFls] at h
  | f :: fs, e :: es, h, i, h1, h2 => by
    simp only [okFls, Bool.and_eq_true] at h
    cases i with
    | zero => exact h.1
    | succ i => exact okFls_get h.2 i (by simpa using h1) (by simpa using h2)
theorem okFls_of : ∀ {fs : List FlD} {es : List EntryD}, fs.length = es.length → (∀ i (h : i < fs.length) (h' : i < es.length), okFl fs[i] es[i] = true) → okFls fs es = true
  | [], [], _, _ => rfl
  | f :: fs, e :: es, hl, h => by
    simp only [okFls, Bool.and_eq_true]
    exact ⟨h 0 (by simp) (by simp), okFls_of (by simpa using hl) fun i h1 h2 => h (i + 1) (by simpa using h1) (by simpa using h2)⟩
  | [], _ :: _, hl, _ => by simp at hl
  | _ :: _, [], hl, _ => by simp at hl
end Go.Proofs.YtkhclhnejnpkeaaGreat
