/- Connections in plain words: which is right, what each frame does to it, what is taken, replied, given and flushed. -/
import Derived.Test.YtfmeinkhdgbgjaaGreatQTkG7
import Derived.Test.YtfmeinkhdgbgjaaGreatQTkG3
import Derived.Test.YtfmeinkhdgbgjaaGreatQTkBM
import Derived.Test.YtfmeinkhdgbgjaaGreatQTkG4
namespace Go.Proofs.YtfmeinkhdgbgjaaGreat
open Go.RowKit
set_option maxRecDepth 100000
set_option linter.unusedSimpArgs false
set_option linter.unusedVariables false

/-- A Flow. -/
structure FlD where
  id : Int
  get : Int
  give : Int
  fds : List Fd
  tun : TuD
  ended : Bool
/-- A Conn. -/
structure CnD where
  reg : RegistryD
  inr : Int
  inT : List Fd
  outr : Int
  outT : List Fd
  get : Int
  give : Int
  first : Int
  flows : List FlD
  away : Bool
  dead : Bool
def zCn : CnD := ⟨⟨0, 0, []⟩, 0, [], 0, [], 0, 0, 0, [], false, false⟩
def okFl (f : FlD) (e : EntryD) : Bool := decide (f.id = e.id) && winB f.get && winB f.give && okFs f.fds && okTu f.tun
def okFls : List FlD → List EntryD → Bool
  | [], [] => true
  | f :: fs, e :: es => okFl f e && okFls fs es
  | _, _ => false
def okCn (c : CnD) : Bool := okRg c.reg && okT c.inr c.inT && okT c.outr c.outT && winB c.get && winB c.give && inB c.first 0 16777215 && okFls c.flows c.reg.es
theorem okFls_len : ∀ {fs : List FlD} {es : List EntryD}, okFls fs es = true → fs.length = es.length
  | [], [], _ => rfl
  | f :: fs, e :: es, h => by
    simp only [okFls, Bool.and_eq_true] at h
    simp [okFls_len h.2]
  | [], _ :: _, h => by simp [okFls] at h
  | _ :: _, [], h => by simp [okFls] at h
theorem okFls_get : ∀ {fs : List FlD} {es : List EntryD}, okFls fs es = true → ∀ i (h : i < fs.length) (h' : i < es.length), okFl fs[i] es[i] = true
  | [], _, _, i, h, _ => absurd h (Nat.not_lt_zero _)
  | f :: fs, [], h, _, _, _ => by simp [okFls] at h
  | f :: fs, e :: es, h, i, h1, h2 => by
    simp only [okFls, Bool.and_eq_true] at h
    cases i with
    | zero => exact h.1
    | succ i => exact okFls_get h.2 i (by simpa using h1) (by simpa using h2)
theorem okFls_of : ∀ {fs : List FlD} {es : List EntryD}, fs.length = es.length → (∀ i (h : i < fs.length) (h' : i < es.length), okFl fs[i] es[i] = true) → okFls fs es = true
  | [], [], _, _ => rfl
  | f :: fs, e :: es, hl, h => by
    simp only [okFls, Bool.and_eq_true]
    exact ⟨h 0 (by simp) (by simp), okFls_of (by simpa using hl) fun i h1 h2 => h (i + 1) (by simpa using h1) (by simpa using h2)⟩
  | [], _ :: _, hl, _ => by simp at hl
  | _ :: _, [], hl, _ => by simp at hl
def winFr (id n : Int) : Fr := ⟨7, 0, id, bytV 3 n⟩
/-- The stream with this number turned so. -/
def atFl (c : CnD) (id : Int) (h : FlD → FlD) : CnD := match atE c.reg.es id with | some k => { c with flows := c.flows.modify k h } | none => c
def hapD (c : CnD) (id ev : Int) : CnD := { c with reg := (happenRaw c.reg id ev).1 }
def grantD (c : CnD) (id n : Int) : CnD × List Fr :=
  if n = 0 then (c, []) else if id = 0 then ({ c with get := c.get + n }, [winFr 0 n]) else (atFl c id (fun f => { f with get := f.get + n }), [winFr id n])
def outF (n : Int) (f : FlD) : FlD := { f with tun := ⟨⟨f.tun.up.r, f.tun.up.b.extract (outN f.tun n) f.tun.up.b.size, f.tun.up.e, f.tun.up.k⟩, f.tun.dn, f.tun.went + outN f.tun n, f.tun.came⟩ }
def tookRaw (c : CnD) (id n : Int) : CnD × List Fr × ByteArray :=
  match atE c.reg.es id with
  | none => (c, [], ⟨#[]⟩)
  | some k => match c.flows[k]?, c.reg.es[k]? with
    | some f, some e =>
      if c.dead then (c, [], ⟨#[]⟩)
      else
        let room := max 0 (16777215 - max c.get f.get)
        let m := outN f.tun (min n room)
        let s := f.tun.up.b.extract 0 m
        let c := atFl c id (outF (min n room))
        let g1 := if e.state = 4 then (c, []) else grantD c id s.size
        ((grantD g1.1 0 s.size).1, g1.2 ++ (grantD g1.1 0 s.size).2, s)
    | _, _ => (c, [], ⟨#[]⟩)
def tookD (c : CnD) (id n : Int) : CnD × List Fr × ByteArray := if okCn c = false then (zCn, [], ⟨#[]⟩) else tookRaw c id n
end Go.Proofs.YtfmeinkhdgbgjaaGreat
