/- Connections in plain words: which is right, what each frame does to it, what is taken, replied, given and flushed. -/
import Derived.Test.YtllaeakeaabiaaaGreatQG7
import Derived.Test.YtllaeakeaabiaaaGreatQG4
import Derived.Test.YtllaeakeaabiaaaGreatQBM
import Derived.Test.YtllaeakeaabiaaaGreatQG3
namespace Go.Proofs.YtllaeakeaabiaaaGreat
open Go.RowKit
set_option maxRecDepth 100000
set_option linter.unusedSimpArgs false
set_option linter.unusedVariables false

/-- A Flow. -/
structure FlD where
  id : Int
  get : Int
  give : Int
  fds : List Fd
  tun : TuD
  ended : Bool
/-- A Conn. -/
structure CnD where
  reg : RegistryD
  inr : Int
  inT : List Fd
  outr : Int
  outT : List Fd
  get : Int
  give : Int
  first : Int
  flows : List FlD
  away : Bool
  dead : Bool
def zCn : CnD := ⟨⟨0, 0, []⟩, 0, [], 0, [], 0, 0, 0, [], false, false⟩
def okFl (f : FlD) (e : EntryD) : Bool := decide (f.id = e.id) && winB f.get && winB f.give && okFs f.fds && okTu f.tun
def okFls : List FlD → List EntryD → Bool
  | [], [] => true
  | f :: fs, e :: es => okFl f e && okFls fs es
  | _, _ => false
def okCn (c : CnD) : Bool := okRg c.reg && okT c.inr c.inT && okT c.outr c.outT && winB c.get && winB c.give && inB c.first 0 16777215 && okFls c.flows c.reg.es
theorem okFls_len : ∀ {fs : List FlD} {es : List EntryD}, okFls fs es = true → fs.length = es.length
  | [], [], _ => rfl
  | f :: fs, e :: es, h => by
    simp only [okFls, Bool.and_eq_true] at h
    simp [okFls_len h.2]
  | [], _ :: _, h => by simp [okFls] at h
  | _ :: _, [], h => by simp [okFls] at h
theorem okFls_get : ∀ {fs : List FlD} {es : List EntryD}, okFls fs es = true → ∀ i (h : i < fs.length) (h' : i < es.length), okFl fs[i] es[i] = true
  | [], _, _, i, h, _ => absurd h (Nat.not_lt_zero _)
  | f :: fs, [], h, _, _, _ => by simp [okFls] at h
  | f :: fs, e :: es, h, i, h1, h2 => by
    simp only [okFls, Bool.and_eq_true] at h
    cases i with
    | zero => exact h.1
    | succ i => exact okFls_get h.2 i (by simpa using h1) (by simpa using h2)
theorem okFls_of : ∀ {fs : List FlD} {es : List EntryD}, fs.length = es.length → (∀ i (h : i < fs.length) (h' : i < es.length), okFl fs[i] es[i] = true) → okFls fs es = true
  | [], [], _, _ => rfl
  | f :: fs, e :: es, hl, h => by
    simp only [okFls, Bool.and_eq_true]
    exact ⟨h 0 (by simp) (by simp), okFls_of (by simpa using hl) fun i h1 h2 => h (i + 1) (by simpa using h1) (by simpa using h2)⟩
  | [], _ :: _, hl, _ => by simp at hl
  | _ :: _, [], hl, _ => by simp at hl
def newCn (limit : Int) : CnD × Bool := if inB limit 0 20 = true then (⟨⟨limit, 0, []⟩, 400, [], 400, [], 2000, 2000, 500, [], false, false⟩, true) else (zCn, false)
def tornT (t : TuD) : TuD := ⟨⟨t.up.r, ⟨#[]⟩, t.up.e, true⟩, ⟨t.dn.r, ⟨#[]⟩, t.dn.e, true⟩, t.went, t.came⟩
def tornF (f : FlD) : FlD := { f with tun := tornT f.tun }
def awayFr (code : Int) : Fr := ⟨6, 0, 0, bytV 4 code⟩
def resetFr (id code : Int) : Fr := ⟨3, 0, id, bytV 1 code⟩
def winFr (id n : Int) : Fr := ⟨7, 0, id, bytV 3 n⟩
def failD (c : CnD) (code : Int) : CnD × List Fr := ({ c with dead := true, flows := c.flows.map tornF }, [awayFr code])
/-- The stream with this number turned so. -/
def atFl (c : CnD) (id : Int) (h : FlD → FlD) : CnD := match atE c.reg.es id with | some k => { c with flows := c.flows.modify k h } | none => c
def hapD (c : CnD) (id ev : Int) : CnD := { c with reg := (happenRaw c.reg id ev).1 }
def breakD (c : CnD) (id code : Int) : CnD × Fr := (atFl (hapD c id 5) id tornF, resetFr id code)
def grantD (c : CnD) (id n : Int) : CnD × List Fr :=
  if n = 0 then (c, []) else if id = 0 then ({ c with get := c.get + n }, [winFr 0 n]) else (atFl c id (fun f => { f with get := f.get + n }), [winFr id n])
def movedAll (c : CnD) (n : Int) : Bool := c.flows.all fun f => (mvV f.give c.first n).2
def settleD (c : CnD) (b : ByteArray) : CnD × List Fr :=
  if b.size = 0 then (c, []) else if movedAll c (numV b) then ({ c with flows := c.flows.map (fun f => { f with give := (mvV f.give c.first (numV b)).1 }), first := numV b }, [⟨4, 0, 0, ⟨#[]⟩⟩]) else failD c 2
def giveAt (c : CnD) (id : Int) : Int := match atE c.reg.es id with | some k => (match c.flows[k]? with | some f => f.give | none => 0) | none => 0
def windowD (c : CnD) (id : Int) (b : ByteArray) : CnD × List Fr :=
  if id = 0 then (if (grV c.give (numV b)).2 then ({ c with give := (grV c.give (numV b)).1 }, []) else failD c 2)
  else if stateD c.reg id = 0 then failD c 1
  else if stateD c.reg id = 4 then (c, [])
  else if (grV (giveAt c id) (numV b)).2 then (atFl c id (fun f => { f with give := (grV f.give (numV b)).1 }), [])
  else ((breakD c id 2).1, [(breakD c id 2).2])
def newFl (id give : Int) (l : List Fd) : FlD := ⟨id, 1000, give, l, (newTu 1000).1, false⟩
def endUp (f : FlD) : FlD := { f with tun := ⟨⟨f.tun.up.r, f.tun.up.b, true, f.tun.up.k⟩, f.tun.dn, f.tun.went, f.tun.came⟩ }
def headD (c : CnD) (id fl : Int) (b : ByteArray) : CnD × List Fr :=
  match decodedD c.inr c.inT b with
  | (l, (r, T), true) =>
    let c := { c with inr := r, inT := T }
    if stateD c.reg id = 4 then (c, [])
    else if stateD c.reg id ≠ 0 then ((breakD c id 3).1, [(breakD c id 3).2])
    else match openRaw c.reg id with
      | (reg, k) =>
        let c := { c with reg := reg }
        if k = 1 then failD c 1
        else if k = 2 then (c, [resetFr id 5])
        else
          let c := { c with flows := c.flows ++ [newFl id c.first l] }
          if c.away then ((breakD c id 5).1, [(breakD c id 5).2])
          else if fl = 1 then ({ hapD c id 2 with flows := (c.flows.dropLast) ++ [endUp (newFl id c.first l)] }, [])
          else (c, [])
  | (_, _, false) => failD c 4
def getAt (c : CnD) (id : Int) : Int := match atE c.reg.es id with | some k => (match c.flows[k]? with | some f => f.get | none => 0) | none => 0
def roomAt (c : CnD) (id : Int) (n : Nat) : Bool := match atE c.reg.es id with | some k => (match c.flows[k]? with | some f => !(f.tun.up.e || f.tun.up.k) && decide ((n : Int) ≤ f.tun.up.r - f.tun.up.b.size) | none => false) | none => false
def putUp (p : ByteArray) (fin : Bool) (f : FlD) : FlD := { f with tun := ⟨⟨f.tun.up.r, f.tun.up.b ++ p, fin, f.tun.up.k⟩, f.tun.dn, f.tun.went, f.tun.came⟩ }
def dataD (c : CnD) (f : Fr) : CnD × List Fr :=
  let n : Int := f.b.size
  if c.get < n then failD c 2
  else
    let c := { c with get := c.get - n }
    let s := stateD c.reg f.st
    if s = 0 then failD c 1
    else if mgV s = false then
      (if s = 4 then grantD c 0 n else ((breakD (grantD c 0 n).1 f.st 3).1, (grantD c 0 n).2 ++ [(breakD (grantD c 0 n).1 f.st 3).2]))
    else if getAt c f.st < n then ((breakD (grantD c 0 n).1 f.st 2).1, (grantD c 0 n).2 ++ [(breakD (grantD c 0 n).1 f.st 2).2])
    else
      let c := atFl c f.st (fun x => { x with get := x.get - n })
      let p := payV f
      if roomAt c f.st p.size = false then ((breakD (grantD c 0 n).1 f.st 2).1, (grantD c 0 n).2 ++ [(breakD (grantD c 0 n).1 f.st 2).2])
      else
        let fin := decide (f.fl % 2 = 1)
        let c := atFl c f.st (putUp p fin)
        let c := if fin then hapD c f.st 2 else c
        let left := n - p.size
        ((grantD (grantD c f.st left).1 0 left).1, (grantD c f.st left).2 ++ (grantD (grantD c f.st left).1 0 left).2)
def gotRaw (c : CnD) (f : Fr) : CnD × List Fr :=
  if c.dead then (c, [])
  else if f.k = 4 then settleD c f.b
  else if f.k = 5 then (if f.fl = 0 then (c, [⟨5, 1, 0, f.b⟩]) else (c, []))
  else if f.k = 6 then ({ c with away := true }, [])
  else if f.k = 7 then windowD c f.st f.b
  else if f.k = 2 then headD c f.st f.fl f.b
  else if f.k = 1 then dataD c f
  else if f.k = 3 then (if stateD c.reg f.st = 0 then failD c 1 else (atFl (hapD c f.st 4) f.st tornF, []))
  else (c, [])
def gotD (c : CnD) (f : Fr) : CnD × List Fr := if okCn c = false then (zCn, []) else if okFr f = false then (c, []) else gotRaw c f
def outF (n : Int) (f : FlD) : FlD := { f with tun := ⟨⟨f.tun.up.r, f.tun.up.b.extract (outN f.tun n) f.tun.up.b.size, f.tun.up.e, f.tun.up.k⟩, f.tun.dn, f.tun.went + outN f.tun n, f.tun.came⟩ }
def tookRaw (c : CnD) (id n : Int) : CnD × List Fr × ByteArray :=
  match atE c.reg.es id with
  | none => (c, [], ⟨#[]⟩)
  | some k => match c.flows[k]?, c.reg.es[k]? with
    | some f, some e =>
      if c.dead then (c, [], ⟨#[]⟩)
      else
        let room := max 0 (16777215 - max c.get f.get)
        let m := outN f.tun (min n room)
        let s := f.tun.up.b.extract 0 m
        let c := atFl c id (outF (min n room))
        let g1 := if e.state = 4 then (c, []) else grantD c id s.size
        ((grantD g1.1 0 s.size).1, g1.2 ++ (grantD g1.1 0 s.size).2, s)
    | _, _ => (c, [], ⟨#[]⟩)
def tookD (c : CnD) (id n : Int) : CnD × List Fr × ByteArray := if okCn c = false then (zCn, [], ⟨#[]⟩) else tookRaw c id n
end Go.Proofs.YtllaeakeaabiaaaGreat
