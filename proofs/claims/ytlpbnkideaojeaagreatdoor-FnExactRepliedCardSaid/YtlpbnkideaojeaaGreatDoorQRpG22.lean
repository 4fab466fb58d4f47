/- Lemmas. -/
import Derived.Test.YtlpbnkideaojeaaGreatDoorQRpG21
namespace Go.Proofs.YtlpbnkideaojeaaGreatDoor
open Go.RowKit
set_option maxRecDepth 100000
set_option linter.unusedSimpArgs false
set_option linter.unusedVariables false
def bU (code : Int) : Fd := ⟨⟨#[58, 115, 116, 97, 116, 117, 115]⟩, strOf (iK code.toNat)⟩
def rJ (f : aV) : aV := { f with tun := ⟨f.tun.up, ⟨f.tun.dn.r, f.tun.dn.b, true, f.tun.dn.k⟩, f.tun.went, f.tun.came⟩ }
def rP (c : aH) (id code : Int) (k : Nat) (f : aV) (e : aF) : aH × List Fr :=
 if c.dead = true ∨ jM e.state = false ∨ aQ code 100 999 = false then (c, [])
 else if code = 200 then ({ c with outT := (bA c.au c.outT [bU code]).2 }, [⟨2, 0, id, (bA c.au c.outT [bU code]).1⟩])
 else ({ oD { c with outT := (bA c.au c.outT [bU code]).2 } id 3 with flows := c.flows.set k (rJ f) }, [⟨2, 1, id, (bA c.au c.outT [bU code]).1⟩])
def jG (c : aH) (id code : Int) : aH × List Fr :=
 match dI c.reg.es id with
 | none => (c, [])
 | some k => match c.flows[k]?, c.reg.es[k]? with
  | some f, some e => rP c id code k f e
  | _, _ => (c, [])
def iU (c : aH) (id code : Int) : aH × List Fr := if dV c = false then (vP, []) else jG c id code
theorem zP {c : aH} {id code : Int} {k : Nat} (h : dI c.reg.es id = some k) (h1 : k < c.flows.length) (h2 : k < c.reg.es.length) : jG c id code = rP c id code k c.flows[k] c.reg.es[k] := by
 unfold jG
 rw [h]
 simp only [List.getElem?_eq_getElem h1, List.getElem?_eq_getElem h2]
theorem F9 {c : aH} {id code : Int} (h : dI c.reg.es id = none) : jG c id code = (c, []) := by unfold jG; rw [h]
theorem aD.nA {D : Type} {E : lN D} {w w' : World} {lo hi : Nat} {v : Value} {L : List D} (h : aD E w lo hi v L) (hs : w'.heap.size = w.heap.size) (hk : ∀ k, lo ≤ k → w'.heap[k]? = w.heap[k]?) : aD E w' lo hi v L := by
 obtain ⟨bs, h1, h2, h3⟩ := h
 exact ⟨bs, h1.keep (Nat.le_of_eq hs.symm) (fun b hb => hk b (h3 b hb).1), h2, h3⟩
def rO (t : jh) : Int := (t.up.b.size : Int) + t.dn.b.size
theorem Ga (t : jh) : 0 ≤ rO t := by unfold rO; omega
theorem qm (x : Int) (k : Nat) (h : x = k) : (x % 3 == 0) = decide (k % 3 = 0) := by
 subst h
 rw [Bool.eq_iff_iff]
 simp
 omega
def bF : lN aV where
 size := 15
 ty := 92
 rd := fun w cs d => ∃ iB : Value, cs = [.int .i64 d.id, .int .i64 d.get, .int .i64 d.give, iB, .int .i64 d.tun.up.r, .string d.tun.up.b, .bool d.tun.up.e, .bool d.tun.up.k, .int .i64 d.tun.dn.r, .string d.tun.dn.b, .bool d.tun.dn.e, .bool d.tun.dn.k, .int .i64 d.tun.went, .int .i64 d.tun.came, .bool d.ended] ∧ d.tun.up.b.size ≤ 9223372036854775807 ∧ d.tun.dn.b.size ≤ 9223372036854775807 ∧ aT bT w iB d.fds
 own := fun w cs d bs => ∃ (iB : Value) (b0 : List Nat), cs = [.int .i64 d.id, .int .i64 d.get, .int .i64 d.give, iB, .int .i64 d.tun.up.r, .string d.tun.up.b, .bool d.tun.up.e, .bool d.tun.up.k, .int .i64 d.tun.dn.r, .string d.tun.dn.b, .bool d.tun.dn.e, .bool d.tun.dn.k, .int .i64 d.tun.went, .int .i64 d.tun.came, .bool d.ended] ∧ d.tun.up.b.size ≤ 9223372036854775807 ∧ d.tun.dn.b.size ≤ 9223372036854775807 ∧ aW bT w iB d.fds b0 ∧ bs = b0
 pos := by decide
 nT := fun h => by obtain ⟨iB, rfl, _⟩ := h; rfl
 Dc := fun h u hu => by
  obtain ⟨iB, rfl, f0, f1, h0⟩ := h
  obtain ⟨_, _, rfl, _⟩ := h0.form
  simp only [List.mem_cons, List.not_mem_nil, or_false] at hu
  rcases hu with rfl | rfl | rfl | rfl | rfl | rfl | rfl | rfl | rfl | rfl | rfl | rfl | rfl | rfl | rfl <;> rfl
 Df := fun h hb => by obtain ⟨iB, rfl, f0, f1, h0⟩ := h; exact ⟨iB, rfl, f0, f1, h0.new hb⟩
 nU := fun h => by obtain ⟨iB, b0, rfl, f0, f1, h0, rfl⟩ := h; exact ⟨iB, rfl, f0, f1, h0.rd⟩
 ji := fun h hs hk => by obtain ⟨iB, b0, rfl, f0, f1, h0, rfl⟩ := h; exact ⟨iB, _, rfl, f0, f1, h0.keep hs (fun b hb => hk b (by simp [hb])), rfl⟩
 kr := fun h b hb => by obtain ⟨iB, b0, rfl, f0, f1, h0, rfl⟩ := h; exact h0.lt b hb
def gM (d : aV) : Int := iC d.fds + rO d.tun
theorem zQ (d : aV) : 0 ≤ gM d := by unfold gM; have := Dh d.fds; have := Ga d.tun; omega
def kH (L : List aV) : Int := L.length + eZ gM L
theorem LB (L : List aV) : 0 ≤ kH L := by unfold kH; have := zR gM zQ L; omega
theorem TF {L : List aV} {d : aV} (h : d ∈ L) : gM d ≤ kH L := by unfold kH; have := TG gM zQ L d h; omega
theorem TH (L : List aV) : (L.length : Int) ≤ kH L := by unfold kH; have := zR gM zQ L; omega
def wm (d : aV) (k : Nat) : aV := ⟨((k : Nat) : Int), ((k + 1 : Nat) : Int), ((k + 1 + 1 : Nat) : Int), bQ d.fds (k + 1 + 1 + 1), ⟨⟨((k + 1 + 1 + 1 + av d.fds : Nat) : Int), bg (k + 1 + 1 + 1 + av d.fds + 1), decide ((k + 1 + 1 + 1 + av d.fds + 1 + 1) % 3 = 0), decide ((k + 1 + 1 + 1 + av d.fds + 1 + 1 + 1) % 3 = 0)⟩, ⟨((k + 1 + 1 + 1 + av d.fds + 1 + 1 + 1 + 1 : Nat) : Int), bg (k + 1 + 1 + 1 + av d.fds + 1 + 1 + 1 + 1 + 1), decide ((k + 1 + 1 + 1 + av d.fds + 1 + 1 + 1 + 1 + 1 + 1) % 3 = 0), decide ((k + 1 + 1 + 1 + av d.fds + 1 + 1 + 1 + 1 + 1 + 1 + 1) % 3 = 0)⟩, ((k + 1 + 1 + 1 + av d.fds + 1 + 1 + 1 + 1 + 1 + 1 + 1 + 1 : Nat) : Int), ((k + 1 + 1 + 1 + av d.fds + 1 + 1 + 1 + 1 + 1 + 1 + 1 + 1 + 1 : Nat) : Int)⟩, decide ((k + 1 + 1 + 1 + av d.fds + 1 + 1 + 1 + 1 + 1 + 1 + 1 + 1 + 1 + 1) % 3 = 0)⟩
def eU (d : aV) : Nat := 1 + 1 + 1 + av d.fds + 1 + 1 + 1 + 1 + 1 + 1 + 1 + 1 + 1 + 1 + 1
def wo (L : List aV) (k : Nat) : List aV := jN wm eU L k
def lM (L : List aV) : Nat := dF eU L
set_option maxHeartbeats 2000000 in
theorem TI (d : aV) (v : Value) (w : World) (hv : aT bT w v d.fds) (hf0 : d.tun.up.b.size ≤ 9223372036854775807) (hf1 : d.tun.dn.b.size ≤ 9223372036854775807) (hs : gM d ≤ 1048576) :
  Calls Tryz.prog 56 #[.agg #[.int .i64 d.id, .int .i64 d.get, .int .i64 d.give, v, .int .i64 d.tun.up.r, .string d.tun.up.b, .bool d.tun.up.e, .bool d.tun.up.k, .int .i64 d.tun.dn.r, .string d.tun.dn.b, .bool d.tun.dn.e, .bool d.tun.dn.k, .int .i64 d.tun.went, .int .i64 d.tun.came, .bool d.ended]] w fun x w' => ∃ v' : Value, x = .returned (.agg #[.int .i64 d.id, .int .i64 d.get, .int .i64 d.give, v', .int .i64 d.tun.up.r, .string d.tun.up.b, .bool d.tun.up.e, .bool d.tun.up.k, .int .i64 d.tun.dn.r, .string d.tun.dn.b, .bool d.tun.dn.e, .bool d.tun.dn.k, .int .i64 d.tun.went, .int .i64 d.tun.came, .bool d.ended]) ∧ aD bT w' w.heap.size w'.heap.size v' d.fds ∧ Below w.heap.size w w' := by
 have HV := hide hv
 obtain ⟨a0, p0, rfl, _⟩ := hv.form
 clear hv
 have hz : iC d.fds ≤ 1048576 := by unfold gM at hs; have := Ga d.tun; omega
 obtain ⟨W, hW⟩ : ∃ W, ((w.alloc (.cells #[.int .i64 d.id, .int .i64 d.get, .int .i64 d.give, .slice a0 d.fds.length p0, .int .i64 d.tun.up.r, .string d.tun.up.b, .bool d.tun.up.e, .bool d.tun.up.k, .int .i64 d.tun.dn.r, .string d.tun.dn.b, .bool d.tun.dn.e, .bool d.tun.dn.k, .int .i64 d.tun.went, .int .i64 d.tun.came, .bool d.ended] 85)).alloc (.cells #[.int .i64 0, .int .i64 0, .int .i64 0, .slice none 0 0, .int .i64 0, .string ⟨#[]⟩, .bool false, .bool false, .int .i64 0, .string ⟨#[]⟩, .bool false, .bool false, .int .i64 0, .int .i64 0, .bool false] 92)).alloc (.cells #[.int .i64 0, .int .i64 0, .int .i64 0, .slice none 0 0, .int .i64 0, .string ⟨#[]⟩, .bool false, .bool false, .int .i64 0, .string ⟨#[]⟩, .bool false, .bool false, .int .i64 0, .int .i64 0, .bool false] 92) = W := ⟨_, rfl⟩
 have RX : aj W w.heap.size 85 [.int .i64 d.id, .int .i64 d.get, .int .i64 d.give, .slice a0 d.fds.length p0, .int .i64 d.tun.up.r, .string d.tun.up.b, .bool d.tun.up.e, .bool d.tun.up.k, .int .i64 d.tun.dn.r, .string d.tun.dn.b, .bool d.tun.dn.e, .bool d.tun.dn.k, .int .i64 d.tun.went, .int .i64 d.tun.came, .bool d.ended] := by rw [← hW]; exact ((aB w 85 [.int .i64 d.id, .int .i64 d.get, .int .i64 d.give, .slice a0 d.fds.length p0, .int .i64 d.tun.up.r, .string d.tun.up.b, .bool d.tun.up.e, .bool d.tun.up.k, .int .i64 d.tun.dn.r, .string d.tun.dn.b, .bool d.tun.dn.e, .bool d.tun.dn.k, .int .i64 d.tun.went, .int .i64 d.tun.came, .bool d.ended]).alloc _).alloc _
 have RY : aj W (w.heap.size + 1) 92 [.int .i64 0, .int .i64 0, .int .i64 0, .slice none 0 0, .int .i64 0, .string ⟨#[]⟩, .bool false, .bool false, .int .i64 0, .string ⟨#[]⟩, .bool false, .bool false, .int .i64 0, .int .i64 0, .bool false] := by have := (aB (w.alloc (.cells #[.int .i64 d.id, .int .i64 d.get, .int .i64 d.give, .slice a0 d.fds.length p0, .int .i64 d.tun.up.r, .string d.tun.up.b, .bool d.tun.up.e, .bool d.tun.up.k, .int .i64 d.tun.dn.r, .string d.tun.dn.b, .bool d.tun.dn.e, .bool d.tun.dn.k, .int .i64 d.tun.went, .int .i64 d.tun.came, .bool d.ended] 85)) 92 [.int .i64 0, .int .i64 0, .int .i64 0, .slice none 0 0, .int .i64 0, .string ⟨#[]⟩, .bool false, .bool false, .int .i64 0, .string ⟨#[]⟩, .bool false, .bool false, .int .i64 0, .int .i64 0, .bool false]).alloc (.cells #[.int .i64 0, .int .i64 0, .int .i64 0, .slice none 0 0, .int .i64 0, .string ⟨#[]⟩, .bool false, .bool false, .int .i64 0, .string ⟨#[]⟩, .bool false, .bool false, .int .i64 0, .int .i64 0, .bool false] 92); rw [hW] at this; simpa using this
 have RZ : aj W (w.heap.size + 1 + 1) 92 [.int .i64 0, .int .i64 0, .int .i64 0, .slice none 0 0, .int .i64 0, .string ⟨#[]⟩, .bool false, .bool false, .int .i64 0, .string ⟨#[]⟩, .bool false, .bool false, .int .i64 0, .int .i64 0, .bool false] := by have := aB ((w.alloc (.cells #[.int .i64 d.id, .int .i64 d.get, .int .i64 d.give, .slice a0 d.fds.length p0, .int .i64 d.tun.up.r, .string d.tun.up.b, .bool d.tun.up.e, .bool d.tun.up.k, .int .i64 d.tun.dn.r, .string d.tun.dn.b, .bool d.tun.dn.e, .bool d.tun.dn.k, .int .i64 d.tun.went, .int .i64 d.tun.came, .bool d.ended] 85)).alloc (.cells #[.int .i64 0, .int .i64 0, .int .i64 0, .slice none 0 0, .int .i64 0, .string ⟨#[]⟩, .bool false, .bool false, .int .i64 0, .string ⟨#[]⟩, .bool false, .bool false, .int .i64 0, .int .i64 0, .bool false] 92)) 92 [.int .i64 0, .int .i64 0, .int .i64 0, .slice none 0 0, .int .i64 0, .string ⟨#[]⟩, .bool false, .bool false, .int .i64 0, .string ⟨#[]⟩, .bool false, .bool false, .int .i64 0, .int .i64 0, .bool false]; rw [hW] at this; simpa using this
 have HB : Below w.heap.size w W := by rw [← hW]; exact ((((Below.refl _ _).alloc (Nat.le_refl _) _).alloc (by simp) _).alloc (by simp; omega) _)
 have hWs : w.heap.size + 3 ≤ W.heap.size := by rw [← hW]; first | (simp; done) | (simp; omega)
 go_enter Tryz.func56, Tryz.ntmps56
 obtain ⟨x0, x1, x2, x3⟩ := wu RX
 have xf := fun j => aj.frozen RX j
 have xl := RX.lt
 obtain ⟨z0, z1, z2⟩ := jZ RZ
 have zf := fun j => aj.frozen RZ j
 have zl := RZ.lt
 go_upto_region 5 with fail
 clear x0 x1 x2 x3 xf xl
 clear z0 z1 z2 zf zl
 have bX : aj (((W.setCell ⟨(w.heap.size + 1 + 1), 0, none⟩ (.int .i64 d.id)).setCell ⟨(w.heap.size + 1 + 1), 1, none⟩ (.int .i64 d.get)).setCell ⟨(w.heap.size + 1 + 1), 2, none⟩ (.int .i64 d.give)) w.heap.size 85 [.int .i64 d.id, .int .i64 d.get, .int .i64 d.give, .slice a0 d.fds.length p0, .int .i64 d.tun.up.r, .string d.tun.up.b, .bool d.tun.up.e, .bool d.tun.up.k, .int .i64 d.tun.dn.r, .string d.tun.dn.b, .bool d.tun.dn.e, .bool d.tun.dn.k, .int .i64 d.tun.went, .int .i64 d.tun.came, .bool d.ended] := (((RX.far ⟨(w.heap.size + 1 + 1), 0, none⟩ (.int .i64 d.id) (show (w.heap.size + 1 + 1) ≠ w.heap.size by omega)).far ⟨(w.heap.size + 1 + 1), 1, none⟩ (.int .i64 d.get) (show (w.heap.size + 1 + 1) ≠ w.heap.size by omega)).far ⟨(w.heap.size + 1 + 1), 2, none⟩ (.int .i64 d.give) (show (w.heap.size + 1 + 1) ≠ w.heap.size by omega))
 have bY : aj (((W.setCell ⟨(w.heap.size + 1 + 1), 0, none⟩ (.int .i64 d.id)).setCell ⟨(w.heap.size + 1 + 1), 1, none⟩ (.int .i64 d.get)).setCell ⟨(w.heap.size + 1 + 1), 2, none⟩ (.int .i64 d.give)) (w.heap.size + 1) 92 [.int .i64 0, .int .i64 0, .int .i64 0, .slice none 0 0, .int .i64 0, .string ⟨#[]⟩, .bool false, .bool false, .int .i64 0, .string ⟨#[]⟩, .bool false, .bool false, .int .i64 0, .int .i64 0, .bool false] := (((RY.far ⟨(w.heap.size + 1 + 1), 0, none⟩ (.int .i64 d.id) (show (w.heap.size + 1 + 1) ≠ (w.heap.size + 1) by omega)).far ⟨(w.heap.size + 1 + 1), 1, none⟩ (.int .i64 d.get) (show (w.heap.size + 1 + 1) ≠ (w.heap.size + 1) by omega)).far ⟨(w.heap.size + 1 + 1), 2, none⟩ (.int .i64 d.give) (show (w.heap.size + 1 + 1) ≠ (w.heap.size + 1) by omega))
 have bJ : aj (((W.setCell ⟨(w.heap.size + 1 + 1), 0, none⟩ (.int .i64 d.id)).setCell ⟨(w.heap.size + 1 + 1), 1, none⟩ (.int .i64 d.get)).setCell ⟨(w.heap.size + 1 + 1), 2, none⟩ (.int .i64 d.give)) (w.heap.size + 1 + 1) 92 [.int .i64 d.id, .int .i64 d.get, .int .i64 d.give, .slice none 0 0, .int .i64 0, .string ⟨#[]⟩, .bool false, .bool false, .int .i64 0, .string ⟨#[]⟩, .bool false, .bool false, .int .i64 0, .int .i64 0, .bool false] := (((RZ.set 0 (.int .i64 d.id)).set 1 (.int .i64 d.get)).set 2 (.int .i64 d.give))
 have bD := (((HB.setCell (p := ⟨(w.heap.size + 1 + 1), 0, none⟩) (show w.heap.size ≤ (w.heap.size + 1 + 1) by omega) (.int .i64 d.id)).setCell (p := ⟨(w.heap.size + 1 + 1), 1, none⟩) (show w.heap.size ≤ (w.heap.size + 1 + 1) by omega) (.int .i64 d.get)).setCell (p := ⟨(w.heap.size + 1 + 1), 2, none⟩) (show w.heap.size ≤ (w.heap.size + 1 + 1) by omega) (.int .i64 d.give))
 generalize hV : (((W.setCell ⟨(w.heap.size + 1 + 1), 0, none⟩ (.int .i64 d.id)).setCell ⟨(w.heap.size + 1 + 1), 1, none⟩ (.int .i64 d.get)).setCell ⟨(w.heap.size + 1 + 1), 2, none⟩ (.int .i64 d.give)) = V1 at *
 clear hV
 clear RX
 have RX := bX
 clear bX
 clear RY
 have RY := bY
 clear bY
 clear RZ
 have RZ := bJ
 clear bJ
 clear HB
 have HB := bD
 clear bD
 clear hW
 have TJ : w.heap.size + 3 ≤ V1.heap.size := by have := HB.size; have := RZ.lt; omega
 have x3 := ak 3 RX rfl
 have xf := fun j => aj.frozen RX j
 have xl := RX.lt
 go_wp2_with fail
 clear x3 xf xl
 refine (TK d.fds _ _ (HV.out.new HB) hz).mono ?_; rintro x w1 ⟨v1, rfl, ho, hb⟩
 obtain ⟨dN, dO, rfl, _⟩ := ho.form
 replace ho : aD bT w1 (w.heap.size + 3) w1.heap.size (.slice dN d.fds.length dO) d.fds := ho.wide TJ (Nat.le_refl _)
 have HO := hide ho
 clear ho
 replace RX := RX.new hb
 replace RY := RY.new hb
 replace RZ := RZ.new hb
 replace HB := ah HB hb
 clear hb
 have z3 := ak 3 RZ rfl
 have zf := fun j => aj.frozen RZ j
 have zl := RZ.lt
 go_upto_region 6 with fail
 clear z3 zf zl
 have NO := hide (aD.far HO.out ⟨w.heap.size + 1 + 1, 3, none⟩ (.slice dN d.fds.length dO) (.inl (show w.heap.size + 1 + 1 < w.heap.size + 3 by omega)))
 have bX : aj (w1.setCell ⟨(w.heap.size + 1 + 1), 3, none⟩ (.slice dN d.fds.length dO)) w.heap.size 85 [.int .i64 d.id, .int .i64 d.get, .int .i64 d.give, .slice a0 d.fds.length p0, .int .i64 d.tun.up.r, .string d.tun.up.b, .bool d.tun.up.e, .bool d.tun.up.k, .int .i64 d.tun.dn.r, .string d.tun.dn.b, .bool d.tun.dn.e, .bool d.tun.dn.k, .int .i64 d.tun.went, .int .i64 d.tun.came, .bool d.ended] := (RX.far ⟨(w.heap.size + 1 + 1), 3, none⟩ (.slice dN d.fds.length dO) (show (w.heap.size + 1 + 1) ≠ w.heap.size by omega))
 have bY : aj (w1.setCell ⟨(w.heap.size + 1 + 1), 3, none⟩ (.slice dN d.fds.length dO)) (w.heap.size + 1) 92 [.int .i64 0, .int .i64 0, .int .i64 0, .slice none 0 0, .int .i64 0, .string ⟨#[]⟩, .bool false, .bool false, .int .i64 0, .string ⟨#[]⟩, .bool false, .bool false, .int .i64 0, .int .i64 0, .bool false] := (RY.far ⟨(w.heap.size + 1 + 1), 3, none⟩ (.slice dN d.fds.length dO) (show (w.heap.size + 1 + 1) ≠ (w.heap.size + 1) by omega))
 have bJ : aj (w1.setCell ⟨(w.heap.size + 1 + 1), 3, none⟩ (.slice dN d.fds.length dO)) (w.heap.size + 1 + 1) 92 [.int .i64 d.id, .int .i64 d.get, .int .i64 d.give, .slice dN d.fds.length dO, .int .i64 0, .string ⟨#[]⟩, .bool false, .bool false, .int .i64 0, .string ⟨#[]⟩, .bool false, .bool false, .int .i64 0, .int .i64 0, .bool false] := (RZ.set 3 (.slice dN d.fds.length dO))
 have bD := (HB.setCell (p := ⟨(w.heap.size + 1 + 1), 3, none⟩) (show w.heap.size ≤ (w.heap.size + 1 + 1) by omega) (.slice dN d.fds.length dO))
 generalize hV : (w1.setCell ⟨(w.heap.size + 1 + 1), 3, none⟩ (.slice dN d.fds.length dO)) = V2 at *
 clear hV
 clear RX
 have RX := bX
 clear bX
 clear RY
 have RY := bY
 clear bY
 clear RZ
 have RZ := bJ
 clear bJ
 clear HB
 have HB := bD
 clear bD
 clear HO
 have HO := NO
 clear NO
 have x4 := ak 4 RX rfl
 have x5 := ak 5 RX rfl
 have x6 := ak 6 RX rfl
 have x7 := ak 7 RX rfl
 have x8 := ak 8 RX rfl
 have x9 := ak 9 RX rfl
 have x10 := ak 10 RX rfl
 have bC := ak 11 RX rfl
 have bS := ak 12 RX rfl
 have oF := ak 13 RX rfl
 have xf := fun j => aj.frozen RX j
 have xl := RX.lt
 go_wp2_with fail
 clear x4 x5 x6 x7 x8 x9 x10 bC bS oF xf xl
 refine (TL d.tun _).mono ?_; rintro x w2 ⟨rfl, hb⟩
 replace HO := hide (HO.out.new hb)
 replace RX := RX.new hb
 replace RY := RY.new hb
 replace RZ := RZ.new hb
 replace HB := ah HB hb
 clear hb
 have z4 := ak 4 RZ rfl
 have z5 := ak 5 RZ rfl
 have z6 := ak 6 RZ rfl
 have z7 := ak 7 RZ rfl
 have z8 := ak 8 RZ rfl
 have z9 := ak 9 RZ rfl
 have jf := ak 10 RZ rfl
 have jg := ak 11 RZ rfl
 have z12 := ak 12 RZ rfl
 have Di := ak 13 RZ rfl
 have zf := fun j => aj.frozen RZ j
 have zl := RZ.lt
 dsimp only [kI]
 go_upto_region 7 with fail
 clear z4 z5 z6 z7 z8 z9 jf jg z12 Di zf zl
 have NO := hide (aD.far (aD.far (aD.far (aD.far (aD.far (aD.far (aD.far (aD.far (aD.far (aD.far HO.out ⟨w.heap.size + 1 + 1, 4, none⟩ (.int .i64 d.tun.up.r) (.inl (show w.heap.size + 1 + 1 < w.heap.size + 3 by omega))) ⟨w.heap.size + 1 + 1, 5, none⟩ (.string d.tun.up.b) (.inl (show w.heap.size + 1 + 1 < w.heap.size + 3 by omega))) ⟨w.heap.size + 1 + 1, 6, none⟩ (.bool d.tun.up.e) (.inl (show w.heap.size + 1 + 1 < w.heap.size + 3 by omega))) ⟨w.heap.size + 1 + 1, 7, none⟩ (.bool d.tun.up.k) (.inl (show w.heap.size + 1 + 1 < w.heap.size + 3 by omega))) ⟨w.heap.size + 1 + 1, 8, none⟩ (.int .i64 d.tun.dn.r) (.inl (show w.heap.size + 1 + 1 < w.heap.size + 3 by omega))) ⟨w.heap.size + 1 + 1, 9, none⟩ (.string d.tun.dn.b) (.inl (show w.heap.size + 1 + 1 < w.heap.size + 3 by omega))) ⟨w.heap.size + 1 + 1, 10, none⟩ (.bool d.tun.dn.e) (.inl (show w.heap.size + 1 + 1 < w.heap.size + 3 by omega))) ⟨w.heap.size + 1 + 1, 11, none⟩ (.bool d.tun.dn.k) (.inl (show w.heap.size + 1 + 1 < w.heap.size + 3 by omega))) ⟨w.heap.size + 1 + 1, 12, none⟩ (.int .i64 d.tun.went) (.inl (show w.heap.size + 1 + 1 < w.heap.size + 3 by omega))) ⟨w.heap.size + 1 + 1, 13, none⟩ (.int .i64 d.tun.came) (.inl (show w.heap.size + 1 + 1 < w.heap.size + 3 by omega)))
 have bX : aj ((((((((((w2.setCell ⟨(w.heap.size + 1 + 1), 4, none⟩ (.int .i64 d.tun.up.r)).setCell ⟨(w.heap.size + 1 + 1), 5, none⟩ (.string d.tun.up.b)).setCell ⟨(w.heap.size + 1 + 1), 6, none⟩ (.bool d.tun.up.e)).setCell ⟨(w.heap.size + 1 + 1), 7, none⟩ (.bool d.tun.up.k)).setCell ⟨(w.heap.size + 1 + 1), 8, none⟩ (.int .i64 d.tun.dn.r)).setCell ⟨(w.heap.size + 1 + 1), 9, none⟩ (.string d.tun.dn.b)).setCell ⟨(w.heap.size + 1 + 1), 10, none⟩ (.bool d.tun.dn.e)).setCell ⟨(w.heap.size + 1 + 1), 11, none⟩ (.bool d.tun.dn.k)).setCell ⟨(w.heap.size + 1 + 1), 12, none⟩ (.int .i64 d.tun.went)).setCell ⟨(w.heap.size + 1 + 1), 13, none⟩ (.int .i64 d.tun.came)) w.heap.size 85 [.int .i64 d.id, .int .i64 d.get, .int .i64 d.give, .slice a0 d.fds.length p0, .int .i64 d.tun.up.r, .string d.tun.up.b, .bool d.tun.up.e, .bool d.tun.up.k, .int .i64 d.tun.dn.r, .string d.tun.dn.b, .bool d.tun.dn.e, .bool d.tun.dn.k, .int .i64 d.tun.went, .int .i64 d.tun.came, .bool d.ended] := ((((((((((RX.far ⟨(w.heap.size + 1 + 1), 4, none⟩ (.int .i64 d.tun.up.r) (show (w.heap.size + 1 + 1) ≠ w.heap.size by omega)).far ⟨(w.heap.size + 1 + 1), 5, none⟩ (.string d.tun.up.b) (show (w.heap.size + 1 + 1) ≠ w.heap.size by omega)).far ⟨(w.heap.size + 1 + 1), 6, none⟩ (.bool d.tun.up.e) (show (w.heap.size + 1 + 1) ≠ w.heap.size by omega)).far ⟨(w.heap.size + 1 + 1), 7, none⟩ (.bool d.tun.up.k) (show (w.heap.size + 1 + 1) ≠ w.heap.size by omega)).far ⟨(w.heap.size + 1 + 1), 8, none⟩ (.int .i64 d.tun.dn.r) (show (w.heap.size + 1 + 1) ≠ w.heap.size by omega)).far ⟨(w.heap.size + 1 + 1), 9, none⟩ (.string d.tun.dn.b) (show (w.heap.size + 1 + 1) ≠ w.heap.size by omega)).far ⟨(w.heap.size + 1 + 1), 10, none⟩ (.bool d.tun.dn.e) (show (w.heap.size + 1 + 1) ≠ w.heap.size by omega)).far ⟨(w.heap.size + 1 + 1), 11, none⟩ (.bool d.tun.dn.k) (show (w.heap.size + 1 + 1) ≠ w.heap.size by omega)).far ⟨(w.heap.size + 1 + 1), 12, none⟩ (.int .i64 d.tun.went) (show (w.heap.size + 1 + 1) ≠ w.heap.size by omega)).far ⟨(w.heap.size + 1 + 1), 13, none⟩ (.int .i64 d.tun.came) (show (w.heap.size + 1 + 1) ≠ w.heap.size by omega))
 have bY : aj ((((((((((w2.setCell ⟨(w.heap.size + 1 + 1), 4, none⟩ (.int .i64 d.tun.up.r)).setCell ⟨(w.heap.size + 1 + 1), 5, none⟩ (.string d.tun.up.b)).setCell ⟨(w.heap.size + 1 + 1), 6, none⟩ (.bool d.tun.up.e)).setCell ⟨(w.heap.size + 1 + 1), 7, none⟩ (.bool d.tun.up.k)).setCell ⟨(w.heap.size + 1 + 1), 8, none⟩ (.int .i64 d.tun.dn.r)).setCell ⟨(w.heap.size + 1 + 1), 9, none⟩ (.string d.tun.dn.b)).setCell ⟨(w.heap.size + 1 + 1), 10, none⟩ (.bool d.tun.dn.e)).setCell ⟨(w.heap.size + 1 + 1), 11, none⟩ (.bool d.tun.dn.k)).setCell ⟨(w.heap.size + 1 + 1), 12, none⟩ (.int .i64 d.tun.went)).setCell ⟨(w.heap.size + 1 + 1), 13, none⟩ (.int .i64 d.tun.came)) (w.heap.size + 1) 92 [.int .i64 0, .int .i64 0, .int .i64 0, .slice none 0 0, .int .i64 0, .string ⟨#[]⟩, .bool false, .bool false, .int .i64 0, .string ⟨#[]⟩, .bool false, .bool false, .int .i64 0, .int .i64 0, .bool false] := ((((((((((RY.far ⟨(w.heap.size + 1 + 1), 4, none⟩ (.int .i64 d.tun.up.r) (show (w.heap.size + 1 + 1) ≠ (w.heap.size + 1) by omega)).far ⟨(w.heap.size + 1 + 1), 5, none⟩ (.string d.tun.up.b) (show (w.heap.size + 1 + 1) ≠ (w.heap.size + 1) by omega)).far ⟨(w.heap.size + 1 + 1), 6, none⟩ (.bool d.tun.up.e) (show (w.heap.size + 1 + 1) ≠ (w.heap.size + 1) by omega)).far ⟨(w.heap.size + 1 + 1), 7, none⟩ (.bool d.tun.up.k) (show (w.heap.size + 1 + 1) ≠ (w.heap.size + 1) by omega)).far ⟨(w.heap.size + 1 + 1), 8, none⟩ (.int .i64 d.tun.dn.r) (show (w.heap.size + 1 + 1) ≠ (w.heap.size + 1) by omega)).far ⟨(w.heap.size + 1 + 1), 9, none⟩ (.string d.tun.dn.b) (show (w.heap.size + 1 + 1) ≠ (w.heap.size + 1) by omega)).far ⟨(w.heap.size + 1 + 1), 10, none⟩ (.bool d.tun.dn.e) (show (w.heap.size + 1 + 1) ≠ (w.heap.size + 1) by omega)).far ⟨(w.heap.size + 1 + 1), 11, none⟩ (.bool d.tun.dn.k) (show (w.heap.size + 1 + 1) ≠ (w.heap.size + 1) by omega)).far ⟨(w.heap.size + 1 + 1), 12, none⟩ (.int .i64 d.tun.went) (show (w.heap.size + 1 + 1) ≠ (w.heap.size + 1) by omega)).far ⟨(w.heap.size + 1 + 1), 13, none⟩ (.int .i64 d.tun.came) (show (w.heap.size + 1 + 1) ≠ (w.heap.size + 1) by omega))
 have bJ : aj ((((((((((w2.setCell ⟨(w.heap.size + 1 + 1), 4, none⟩ (.int .i64 d.tun.up.r)).setCell ⟨(w.heap.size + 1 + 1), 5, none⟩ (.string d.tun.up.b)).setCell ⟨(w.heap.size + 1 + 1), 6, none⟩ (.bool d.tun.up.e)).setCell ⟨(w.heap.size + 1 + 1), 7, none⟩ (.bool d.tun.up.k)).setCell ⟨(w.heap.size + 1 + 1), 8, none⟩ (.int .i64 d.tun.dn.r)).setCell ⟨(w.heap.size + 1 + 1), 9, none⟩ (.string d.tun.dn.b)).setCell ⟨(w.heap.size + 1 + 1), 10, none⟩ (.bool d.tun.dn.e)).setCell ⟨(w.heap.size + 1 + 1), 11, none⟩ (.bool d.tun.dn.k)).setCell ⟨(w.heap.size + 1 + 1), 12, none⟩ (.int .i64 d.tun.went)).setCell ⟨(w.heap.size + 1 + 1), 13, none⟩ (.int .i64 d.tun.came)) (w.heap.size + 1 + 1) 92 [.int .i64 d.id, .int .i64 d.get, .int .i64 d.give, .slice dN d.fds.length dO, .int .i64 d.tun.up.r, .string d.tun.up.b, .bool d.tun.up.e, .bool d.tun.up.k, .int .i64 d.tun.dn.r, .string d.tun.dn.b, .bool d.tun.dn.e, .bool d.tun.dn.k, .int .i64 d.tun.went, .int .i64 d.tun.came, .bool false] := ((((((((((RZ.set 4 (.int .i64 d.tun.up.r)).set 5 (.string d.tun.up.b)).set 6 (.bool d.tun.up.e)).set 7 (.bool d.tun.up.k)).set 8 (.int .i64 d.tun.dn.r)).set 9 (.string d.tun.dn.b)).set 10 (.bool d.tun.dn.e)).set 11 (.bool d.tun.dn.k)).set 12 (.int .i64 d.tun.went)).set 13 (.int .i64 d.tun.came))
 have bD := ((((((((((HB.setCell (p := ⟨(w.heap.size + 1 + 1), 4, none⟩) (show w.heap.size ≤ (w.heap.size + 1 + 1) by omega) (.int .i64 d.tun.up.r)).setCell (p := ⟨(w.heap.size + 1 + 1), 5, none⟩) (show w.heap.size ≤ (w.heap.size + 1 + 1) by omega) (.string d.tun.up.b)).setCell (p := ⟨(w.heap.size + 1 + 1), 6, none⟩) (show w.heap.size ≤ (w.heap.size + 1 + 1) by omega) (.bool d.tun.up.e)).setCell (p := ⟨(w.heap.size + 1 + 1), 7, none⟩) (show w.heap.size ≤ (w.heap.size + 1 + 1) by omega) (.bool d.tun.up.k)).setCell (p := ⟨(w.heap.size + 1 + 1), 8, none⟩) (show w.heap.size ≤ (w.heap.size + 1 + 1) by omega) (.int .i64 d.tun.dn.r)).setCell (p := ⟨(w.heap.size + 1 + 1), 9, none⟩) (show w.heap.size ≤ (w.heap.size + 1 + 1) by omega) (.string d.tun.dn.b)).setCell (p := ⟨(w.heap.size + 1 + 1), 10, none⟩) (show w.heap.size ≤ (w.heap.size + 1 + 1) by omega) (.bool d.tun.dn.e)).setCell (p := ⟨(w.heap.size + 1 + 1), 11, none⟩) (show w.heap.size ≤ (w.heap.size + 1 + 1) by omega) (.bool d.tun.dn.k)).setCell (p := ⟨(w.heap.size + 1 + 1), 12, none⟩) (show w.heap.size ≤ (w.heap.size + 1 + 1) by omega) (.int .i64 d.tun.went)).setCell (p := ⟨(w.heap.size + 1 + 1), 13, none⟩) (show w.heap.size ≤ (w.heap.size + 1 + 1) by omega) (.int .i64 d.tun.came))
 generalize hV : ((((((((((w2.setCell ⟨(w.heap.size + 1 + 1), 4, none⟩ (.int .i64 d.tun.up.r)).setCell ⟨(w.heap.size + 1 + 1), 5, none⟩ (.string d.tun.up.b)).setCell ⟨(w.heap.size + 1 + 1), 6, none⟩ (.bool d.tun.up.e)).setCell ⟨(w.heap.size + 1 + 1), 7, none⟩ (.bool d.tun.up.k)).setCell ⟨(w.heap.size + 1 + 1), 8, none⟩ (.int .i64 d.tun.dn.r)).setCell ⟨(w.heap.size + 1 + 1), 9, none⟩ (.string d.tun.dn.b)).setCell ⟨(w.heap.size + 1 + 1), 10, none⟩ (.bool d.tun.dn.e)).setCell ⟨(w.heap.size + 1 + 1), 11, none⟩ (.bool d.tun.dn.k)).setCell ⟨(w.heap.size + 1 + 1), 12, none⟩ (.int .i64 d.tun.went)).setCell ⟨(w.heap.size + 1 + 1), 13, none⟩ (.int .i64 d.tun.came)) = V3 at *
 clear hV
 clear RX
 have RX := bX
 clear bX
 clear RY
 have RY := bY
 clear bY
 clear RZ
 have RZ := bJ
 clear bJ
 clear HB
 have HB := bD
 clear bD
 clear HO
 have HO := NO
 clear NO
 have wz := ak 14 RX rfl
 have xf := fun j => aj.frozen RX j
 have xl := RX.lt
 have LD := ak 14 RZ rfl
 have zf := fun j => aj.frozen RZ j
 have zl := RZ.lt
 go_upto_region 8 with fail
 clear wz xf xl
 clear LD zf zl
 have NO := hide (aD.far HO.out ⟨w.heap.size + 1 + 1, 14, none⟩ (.bool d.ended) (.inl (show w.heap.size + 1 + 1 < w.heap.size + 3 by omega)))
 have bX : aj (V3.setCell ⟨(w.heap.size + 1 + 1), 14, none⟩ (.bool d.ended)) w.heap.size 85 [.int .i64 d.id, .int .i64 d.get, .int .i64 d.give, .slice a0 d.fds.length p0, .int .i64 d.tun.up.r, .string d.tun.up.b, .bool d.tun.up.e, .bool d.tun.up.k, .int .i64 d.tun.dn.r, .string d.tun.dn.b, .bool d.tun.dn.e, .bool d.tun.dn.k, .int .i64 d.tun.went, .int .i64 d.tun.came, .bool d.ended] := (RX.far ⟨(w.heap.size + 1 + 1), 14, none⟩ (.bool d.ended) (show (w.heap.size + 1 + 1) ≠ w.heap.size by omega))
 have bY : aj (V3.setCell ⟨(w.heap.size + 1 + 1), 14, none⟩ (.bool d.ended)) (w.heap.size + 1) 92 [.int .i64 0, .int .i64 0, .int .i64 0, .slice none 0 0, .int .i64 0, .string ⟨#[]⟩, .bool false, .bool false, .int .i64 0, .string ⟨#[]⟩, .bool false, .bool false, .int .i64 0, .int .i64 0, .bool false] := (RY.far ⟨(w.heap.size + 1 + 1), 14, none⟩ (.bool d.ended) (show (w.heap.size + 1 + 1) ≠ (w.heap.size + 1) by omega))
 have bJ : aj (V3.setCell ⟨(w.heap.size + 1 + 1), 14, none⟩ (.bool d.ended)) (w.heap.size + 1 + 1) 92 [.int .i64 d.id, .int .i64 d.get, .int .i64 d.give, .slice dN d.fds.length dO, .int .i64 d.tun.up.r, .string d.tun.up.b, .bool d.tun.up.e, .bool d.tun.up.k, .int .i64 d.tun.dn.r, .string d.tun.dn.b, .bool d.tun.dn.e, .bool d.tun.dn.k, .int .i64 d.tun.went, .int .i64 d.tun.came, .bool d.ended] := (RZ.set 14 (.bool d.ended))
 have bD := (HB.setCell (p := ⟨(w.heap.size + 1 + 1), 14, none⟩) (show w.heap.size ≤ (w.heap.size + 1 + 1) by omega) (.bool d.ended))
 generalize hV : (V3.setCell ⟨(w.heap.size + 1 + 1), 14, none⟩ (.bool d.ended)) = V4 at *
 clear hV
 clear RX
 have RX := bX
 clear bX
 clear RY
 have RY := bY
 clear bY
 clear RZ
 have RZ := bJ
 clear bJ
 clear HB
 have HB := bD
 clear bD
 clear HO
 have HO := NO
 clear NO
 go_wp2_with (first | (refine wpList_load_row (by rfl) 92 _ (by rfl) (w.heap.size + 1 + 1) (by rfl) [.int .i64 d.id, .int .i64 d.get, .int .i64 d.give, .slice dN d.fds.length dO, .int .i64 d.tun.up.r, .string d.tun.up.b, .bool d.tun.up.e, .bool d.tun.up.k, .int .i64 d.tun.dn.r, .string d.tun.dn.b, .bool d.tun.dn.e, .bool d.tun.dn.k, .int .i64 d.tun.went, .int .i64 d.tun.came, .bool d.ended] _ 92 RZ Tryz.underlying92 rfl (by kernel_rfl) ?_) | (refine wpList_store_row (by rfl) 92 _ _ (by rfl) (w.heap.size + 1) [.int .i64 d.id, .int .i64 d.get, .int .i64 d.give, .slice dN d.fds.length dO, .int .i64 d.tun.up.r, .string d.tun.up.b, .bool d.tun.up.e, .bool d.tun.up.k, .int .i64 d.tun.dn.r, .string d.tun.dn.b, .bool d.tun.dn.e, .bool d.tun.dn.k, .int .i64 d.tun.went, .int .i64 d.tun.came, .bool d.ended] (by rfl) (by rfl) 92 [.int .i64 0, .int .i64 0, .int .i64 0, .slice none 0 0, .int .i64 0, .string ⟨#[]⟩, .bool false, .bool false, .int .i64 0, .string ⟨#[]⟩, .bool false, .bool false, .int .i64 0, .int .i64 0, .bool false] RY (by kernel_rfl) rfl (by intro u hu; simp at hu; rcases hu with rfl | rfl | rfl | rfl | rfl | rfl | rfl | rfl | rfl | rfl | rfl | rfl | rfl | rfl | rfl <;> rfl) ?_))
 have NO := hide (aD.nA HO.out (setRow_size V4 _ #[.int .i64 d.id, .int .i64 d.get, .int .i64 d.give, .slice dN d.fds.length dO, .int .i64 d.tun.up.r, .string d.tun.up.b, .bool d.tun.up.e, .bool d.tun.up.k, .int .i64 d.tun.dn.r, .string d.tun.dn.b, .bool d.tun.dn.e, .bool d.tun.dn.k, .int .i64 d.tun.went, .int .i64 d.tun.came, .bool d.ended]) (fun k hk => setRow_other V4 (w.heap.size + 1) #[.int .i64 d.id, .int .i64 d.get, .int .i64 d.give, .slice dN d.fds.length dO, .int .i64 d.tun.up.r, .string d.tun.up.b, .bool d.tun.up.e, .bool d.tun.up.k, .int .i64 d.tun.dn.r, .string d.tun.dn.b, .bool d.tun.dn.e, .bool d.tun.dn.k, .int .i64 d.tun.went, .int .i64 d.tun.came, .bool d.ended] k (by omega)))
 have bX := RX.kept (setRow_other V4 (w.heap.size + 1) #[.int .i64 d.id, .int .i64 d.get, .int .i64 d.give, .slice dN d.fds.length dO, .int .i64 d.tun.up.r, .string d.tun.up.b, .bool d.tun.up.e, .bool d.tun.up.k, .int .i64 d.tun.dn.r, .string d.tun.dn.b, .bool d.tun.dn.e, .bool d.tun.dn.k, .int .i64 d.tun.went, .int .i64 d.tun.came, .bool d.ended] w.heap.size (by omega))
 have bY : aj (V4.setRow (w.heap.size + 1) #[.int .i64 d.id, .int .i64 d.get, .int .i64 d.give, .slice dN d.fds.length dO, .int .i64 d.tun.up.r, .string d.tun.up.b, .bool d.tun.up.e, .bool d.tun.up.k, .int .i64 d.tun.dn.r, .string d.tun.dn.b, .bool d.tun.dn.e, .bool d.tun.dn.k, .int .i64 d.tun.went, .int .i64 d.tun.came, .bool d.ended]) (w.heap.size + 1) 92 [.int .i64 d.id, .int .i64 d.get, .int .i64 d.give, .slice dN d.fds.length dO, .int .i64 d.tun.up.r, .string d.tun.up.b, .bool d.tun.up.e, .bool d.tun.up.k, .int .i64 d.tun.dn.r, .string d.tun.dn.b, .bool d.tun.dn.e, .bool d.tun.dn.k, .int .i64 d.tun.went, .int .i64 d.tun.came, .bool d.ended] := dW (cs' := [.int .i64 d.id, .int .i64 d.get, .int .i64 d.give, .slice dN d.fds.length dO, .int .i64 d.tun.up.r, .string d.tun.up.b, .bool d.tun.up.e, .bool d.tun.up.k, .int .i64 d.tun.dn.r, .string d.tun.dn.b, .bool d.tun.dn.e, .bool d.tun.dn.k, .int .i64 d.tun.went, .int .i64 d.tun.came, .bool d.ended]) RY
 have bJ := RZ.kept (setRow_other V4 (w.heap.size + 1) #[.int .i64 d.id, .int .i64 d.get, .int .i64 d.give, .slice dN d.fds.length dO, .int .i64 d.tun.up.r, .string d.tun.up.b, .bool d.tun.up.e, .bool d.tun.up.k, .int .i64 d.tun.dn.r, .string d.tun.dn.b, .bool d.tun.dn.e, .bool d.tun.dn.k, .int .i64 d.tun.went, .int .i64 d.tun.came, .bool d.ended] (w.heap.size + 1 + 1) (by omega))
 have bD := below_setRow HB (show w.heap.size ≤ (w.heap.size + 1) by omega) #[.int .i64 d.id, .int .i64 d.get, .int .i64 d.give, .slice dN d.fds.length dO, .int .i64 d.tun.up.r, .string d.tun.up.b, .bool d.tun.up.e, .bool d.tun.up.k, .int .i64 d.tun.dn.r, .string d.tun.dn.b, .bool d.tun.dn.e, .bool d.tun.dn.k, .int .i64 d.tun.went, .int .i64 d.tun.came, .bool d.ended]
 generalize hV : V4.setRow (w.heap.size + 1) #[.int .i64 d.id, .int .i64 d.get, .int .i64 d.give, .slice dN d.fds.length dO, .int .i64 d.tun.up.r, .string d.tun.up.b, .bool d.tun.up.e, .bool d.tun.up.k, .int .i64 d.tun.dn.r, .string d.tun.dn.b, .bool d.tun.dn.e, .bool d.tun.dn.k, .int .i64 d.tun.went, .int .i64 d.tun.came, .bool d.ended] = V5 at *
 clear hV
 clear RX
 have RX := bX
 clear bX
 clear RY
 have RY := bY
 clear bY
 clear RZ
 have RZ := bJ
 clear bJ
 clear HB
 have HB := bD
 clear bD
 clear HO
 have HO := NO
 clear NO
 have y0 := ak 0 RY rfl
 have y1 := ak 1 RY rfl
 have y2 := ak 2 RY rfl
 have y3 := ak 3 RY rfl
 have y4 := ak 4 RY rfl
 have y5 := ak 5 RY rfl
 have y6 := ak 6 RY rfl
 have y7 := ak 7 RY rfl
 have y8 := ak 8 RY rfl
 have y9 := ak 9 RY rfl
 have rQ := ak 10 RY rfl
 have wB := ak 11 RY rfl
 have wC := ak 12 RY rfl
 have y13 := ak 13 RY rfl
 have xZ := ak 14 RY rfl
 have yf := fun j => aj.frozen RY j
 have yl := RY.lt
 refine bodyPost_ret (v := .agg #[.int .i64 d.id, .int .i64 d.get, .int .i64 d.give, .slice dN d.fds.length dO, .int .i64 d.tun.up.r, .string d.tun.up.b, .bool d.tun.up.e, .bool d.tun.up.k, .int .i64 d.tun.dn.r, .string d.tun.dn.b, .bool d.tun.dn.e, .bool d.tun.dn.k, .int .i64 d.tun.went, .int .i64 d.tun.came, .bool d.ended]) (by simp [results, Tryz.results56, go_sem, *]) rfl ?_
 exact ⟨_, rfl, HO.out.top.wide (by omega) (Nat.le_refl _), HB⟩
set_option maxHeartbeats 2000000 in
theorem TM (d : aV) (v u : Value) (w : World) (hv : aT bT w v d.fds) (hf0 : d.tun.up.b.size ≤ 9223372036854775807) (hf1 : d.tun.dn.b.size ≤ 9223372036854775807) (hu : aT bT w u d.fds) :
  Calls Tryz.prog 69 #[.agg #[.int .i64 d.id, .int .i64 d.get, .int .i64 d.give, v, .int .i64 d.tun.up.r, .string d.tun.up.b, .bool d.tun.up.e, .bool d.tun.up.k, .int .i64 d.tun.dn.r, .string d.tun.dn.b, .bool d.tun.dn.e, .bool d.tun.dn.k, .int .i64 d.tun.went, .int .i64 d.tun.came, .bool d.ended], .agg #[.int .i64 d.id, .int .i64 d.get, .int .i64 d.give, u, .int .i64 d.tun.up.r, .string d.tun.up.b, .bool d.tun.up.e, .bool d.tun.up.k, .int .i64 d.tun.dn.r, .string d.tun.dn.b, .bool d.tun.dn.e, .bool d.tun.dn.k, .int .i64 d.tun.went, .int .i64 d.tun.came, .bool d.ended]] w fun x w' => x = .returned (.bool true) ∧ Below w.heap.size w w' := by
 have HV := hide hv
 obtain ⟨a0, p0, rfl, _⟩ := hv.form
 have HU := hide hu
 obtain ⟨a1, p1, rfl, _⟩ := hu.form
 clear hv hu
 obtain ⟨W, hW⟩ : ∃ W, (w.alloc (.cells #[.int .i64 d.id, .int .i64 d.get, .int .i64 d.give, .slice a0 d.fds.length p0, .int .i64 d.tun.up.r, .string d.tun.up.b, .bool d.tun.up.e, .bool d.tun.up.k, .int .i64 d.tun.dn.r, .string d.tun.dn.b, .bool d.tun.dn.e, .bool d.tun.dn.k, .int .i64 d.tun.went, .int .i64 d.tun.came, .bool d.ended] 92)).alloc (.cells #[.int .i64 d.id, .int .i64 d.get, .int .i64 d.give, .slice a1 d.fds.length p1, .int .i64 d.tun.up.r, .string d.tun.up.b, .bool d.tun.up.e, .bool d.tun.up.k, .int .i64 d.tun.dn.r, .string d.tun.dn.b, .bool d.tun.dn.e, .bool d.tun.dn.k, .int .i64 d.tun.went, .int .i64 d.tun.came, .bool d.ended] 92) = W := ⟨_, rfl⟩
 have RX : aj W w.heap.size 92 [.int .i64 d.id, .int .i64 d.get, .int .i64 d.give, .slice a0 d.fds.length p0, .int .i64 d.tun.up.r, .string d.tun.up.b, .bool d.tun.up.e, .bool d.tun.up.k, .int .i64 d.tun.dn.r, .string d.tun.dn.b, .bool d.tun.dn.e, .bool d.tun.dn.k, .int .i64 d.tun.went, .int .i64 d.tun.came, .bool d.ended] := by rw [← hW]; exact (aB w 92 [.int .i64 d.id, .int .i64 d.get, .int .i64 d.give, .slice a0 d.fds.length p0, .int .i64 d.tun.up.r, .string d.tun.up.b, .bool d.tun.up.e, .bool d.tun.up.k, .int .i64 d.tun.dn.r, .string d.tun.dn.b, .bool d.tun.dn.e, .bool d.tun.dn.k, .int .i64 d.tun.went, .int .i64 d.tun.came, .bool d.ended]).alloc _
 have RY : aj W (w.heap.size + 1) 92 [.int .i64 d.id, .int .i64 d.get, .int .i64 d.give, .slice a1 d.fds.length p1, .int .i64 d.tun.up.r, .string d.tun.up.b, .bool d.tun.up.e, .bool d.tun.up.k, .int .i64 d.tun.dn.r, .string d.tun.dn.b, .bool d.tun.dn.e, .bool d.tun.dn.k, .int .i64 d.tun.went, .int .i64 d.tun.came, .bool d.ended] := by have := aB (w.alloc (.cells #[.int .i64 d.id, .int .i64 d.get, .int .i64 d.give, .slice a0 d.fds.length p0, .int .i64 d.tun.up.r, .string d.tun.up.b, .bool d.tun.up.e, .bool d.tun.up.k, .int .i64 d.tun.dn.r, .string d.tun.dn.b, .bool d.tun.dn.e, .bool d.tun.dn.k, .int .i64 d.tun.went, .int .i64 d.tun.came, .bool d.ended] 92)) 92 [.int .i64 d.id, .int .i64 d.get, .int .i64 d.give, .slice a1 d.fds.length p1, .int .i64 d.tun.up.r, .string d.tun.up.b, .bool d.tun.up.e, .bool d.tun.up.k, .int .i64 d.tun.dn.r, .string d.tun.dn.b, .bool d.tun.dn.e, .bool d.tun.dn.k, .int .i64 d.tun.went, .int .i64 d.tun.came, .bool d.ended]; rw [hW] at this; simpa using this
 have HB : Below w.heap.size w W := by rw [← hW]; exact (((Below.refl _ _).alloc (Nat.le_refl _) _).alloc (by simp) _)
 have e0 : (d.id != d.id) = false := by simp
 have e1 : (d.get != d.get) = false := by simp
 have e2 : (d.give != d.give) = false := by simp
 go_enter Tryz.func69, Tryz.ntmps69
 obtain ⟨x0, x1, x2, x3⟩ := wu RX
 have xf := fun j => aj.frozen RX j
 have xl := RX.lt
 obtain ⟨y0, y1, y2, y3⟩ := wu RY
 have yf := fun j => aj.frozen RY j
 have yl := RY.lt
 go_wp2_with fail
 clear x0 x1 x2 x3 xf xl
 clear y0 y1 y2 y3 yf yl
 clear hW
 refine (TN d.fds _ _ _ (HV.out.new HB) (HU.out.new HB)).mono ?_; rintro x w1 ⟨rfl, hb⟩
 replace RX := RX.new hb
 replace RY := RY.new hb
 replace HB := ah HB hb
 clear hb
 have x4 := ak 4 RX rfl
 have x5 := ak 5 RX rfl
 have x6 := ak 6 RX rfl
 have x7 := ak 7 RX rfl
 have x8 := ak 8 RX rfl
 have x9 := ak 9 RX rfl
 have x10 := ak 10 RX rfl
 have bC := ak 11 RX rfl
 have bS := ak 12 RX rfl
 have oF := ak 13 RX rfl
 have xf := fun j => aj.frozen RX j
 have xl := RX.lt
 have y4 := ak 4 RY rfl
 have y5 := ak 5 RY rfl
 have y6 := ak 6 RY rfl
 have y7 := ak 7 RY rfl
 have y8 := ak 8 RY rfl
 have y9 := ak 9 RY rfl
 have rQ := ak 10 RY rfl
 have wB := ak 11 RY rfl
 have wC := ak 12 RY rfl
 have y13 := ak 13 RY rfl
 have yf := fun j => aj.frozen RY j
 have yl := RY.lt
 go_wp2_with fail
 clear x4 x5 x6 x7 x8 x9 x10 bC bS oF xf xl
 clear y4 y5 y6 y7 y8 y9 rQ wB wC y13 yf yl
 refine (TP d.tun _).mono ?_; rintro x w2 ⟨rfl, hb⟩
 replace RX := RX.new hb
 replace RY := RY.new hb
 replace HB := ah HB hb
 clear hb
 have wz := ak 14 RX rfl
 have xf := fun j => aj.frozen RX j
 have xl := RX.lt
 have xZ := ak 14 RY rfl
 have yf := fun j => aj.frozen RY j
 have yl := RY.lt
 cases he : d.ended
 ·rw [he] at wz xZ
  go_wp2_with fail
  go_ret
  exact ⟨rfl, HB⟩
 ·rw [he] at wz xZ
  go_wp2_with fail
  go_ret
  exact ⟨rfl, HB⟩
set_option maxHeartbeats 1000000 in
theorem TQ (t : jh) (left : Int) (w : World) (h1 : t.up.b.size ≤ 9223372036854775807) (h2 : t.dn.b.size ≤ 9223372036854775807) (h3 : 0 ≤ left) (h4 : left ≤ 1048576) : Calls Tryz.prog 75 #[kI t, .int .i64 left] w fun x w' => (x = .returned (.int .i64 (-1)) ∨ (x = .returned (.int .i64 (left - rO t)) ∧ 0 ≤ left - rO t)) ∧ Below w.heap.size w w' := by
 obtain ⟨⟨r, b, e, k⟩, ⟨r2, b2, e2, k2⟩, wt, cm⟩ := t
 unfold rO
 dsimp only [kI] at *
 replace h1 : b.size ≤ maxLen := by unfold maxLen; omega
 replace h2 : b2.size ≤ maxLen := by unfold maxLen; omega
 have RX := aB w 83 [.int .i64 r, .string b, .bool e, .bool k, .int .i64 r2, .string b2, .bool e2, .bool k2, .int .i64 wt, .int .i64 cm]
 have HB : Below w.heap.size w (w.alloc (.cells #[.int .i64 r, .string b, .bool e, .bool k, .int .i64 r2, .string b2, .bool e2, .bool k2, .int .i64 wt, .int .i64 cm] 83)) := (Below.refl _ _).alloc (Nat.le_refl _) _
 by_cases c1 : left - b.size < 0
 ·go_enter Tryz.func75, Tryz.ntmps75
  go_wp2_with fail
  refine (sz r b e k left _ h1 (by omega) (by omega)).mono ?_; rw [if_pos (by omega)]; rintro x w1 ⟨rfl, hb1⟩
  replace HB := ah HB hb1
  go_wp2_with fail
  go_ret
  exact ⟨.inl rfl, HB⟩
 obtain ⟨q, hq⟩ : ∃ q, left - b.size = q := ⟨_, rfl⟩
 have hq0 : ¬ q < 0 := by omega
 by_cases c2 : q - b2.size < 0
 ·go_enter Tryz.func75, Tryz.ntmps75
  go_wp2_with fail
  refine (sz r b e k left _ h1 (by omega) (by omega)).mono ?_; rw [if_neg (by omega), hq]; rintro x w1 ⟨rfl, hb1⟩
  replace HB := ah HB hb1
  replace RX := RX.new hb1
  obtain ⟨x0, x1, x2, x3, x4, x5, x6, x7, x10, bC⟩ := fF RX; have x9 := fun j => aj.frozen RX j; have x8 := RX.lt
  go_wp2_with fail
  refine (sz r2 b2 e2 k2 q _ h2 (by omega) (by omega)).mono ?_; rw [if_pos (by omega)]; rintro x w2 ⟨rfl, hb2⟩
  replace HB := ah HB hb2
  go_wp2_with fail
  go_ret
  exact ⟨.inl rfl, HB⟩
 obtain ⟨q2, hq2⟩ : ∃ q2, q - b2.size = q2 := ⟨_, rfl⟩
 have TR : ¬ q2 < 0 := by omega
 have hq3 : left - ((b.size : Int) + b2.size) = q2 := by omega
 rw [hq3]
 go_enter Tryz.func75, Tryz.ntmps75
 go_wp2_with fail
 refine (sz r b e k left _ h1 (by omega) (by omega)).mono ?_; rw [if_neg (by omega), hq]; rintro x w1 ⟨rfl, hb1⟩
 replace HB := ah HB hb1
 replace RX := RX.new hb1
 obtain ⟨x0, x1, x2, x3, x4, x5, x6, x7, x10, bC⟩ := fF RX; have x9 := fun j => aj.frozen RX j; have x8 := RX.lt
 go_wp2_with fail
 refine (sz r2 b2 e2 k2 q _ h2 (by omega) (by omega)).mono ?_; rw [if_neg (by omega), hq2]; rintro x w2 ⟨rfl, hb2⟩
 replace HB := ah HB hb2
 go_wp2_with fail
 go_ret
 exact ⟨.inr ⟨rfl, by omega⟩, HB⟩
set_option maxHeartbeats 2000000 in
theorem TS (d : aV) (v : Value) (left : Int) (w : World) (hv : aT bT w v d.fds) (hf0 : d.tun.up.b.size ≤ 9223372036854775807) (hf1 : d.tun.dn.b.size ≤ 9223372036854775807) (h0 : 0 ≤ left) (h1 : left ≤ 1048576) :
  Calls Tryz.prog 40 #[.agg #[.int .i64 d.id, .int .i64 d.get, .int .i64 d.give, v, .int .i64 d.tun.up.r, .string d.tun.up.b, .bool d.tun.up.e, .bool d.tun.up.k, .int .i64 d.tun.dn.r, .string d.tun.dn.b, .bool d.tun.dn.e, .bool d.tun.dn.k, .int .i64 d.tun.went, .int .i64 d.tun.came, .bool d.ended], .int .i64 left] w fun x w' => (x = .returned (.int .i64 (-1)) ∨ (x = .returned (.int .i64 (left - gM d)) ∧ 0 ≤ left - gM d)) ∧ Below w.heap.size w w' := by
 have HV := hide hv
 obtain ⟨a0, p0, rfl, _⟩ := hv.form
 clear hv
 unfold gM
 have RX := aB w 85 [.int .i64 d.id, .int .i64 d.get, .int .i64 d.give, .slice a0 d.fds.length p0, .int .i64 d.tun.up.r, .string d.tun.up.b, .bool d.tun.up.e, .bool d.tun.up.k, .int .i64 d.tun.dn.r, .string d.tun.dn.b, .bool d.tun.dn.e, .bool d.tun.dn.k, .int .i64 d.tun.went, .int .i64 d.tun.came, .bool d.ended]
 have HB : Below w.heap.size w (w.alloc (.cells #[.int .i64 d.id, .int .i64 d.get, .int .i64 d.give, .slice a0 d.fds.length p0, .int .i64 d.tun.up.r, .string d.tun.up.b, .bool d.tun.up.e, .bool d.tun.up.k, .int .i64 d.tun.dn.r, .string d.tun.dn.b, .bool d.tun.dn.e, .bool d.tun.dn.k, .int .i64 d.tun.went, .int .i64 d.tun.came, .bool d.ended] 85)) := (Below.refl _ _).alloc (Nat.le_refl _) _
 have hnt := Ga d.tun
 have hnf := Dh d.fds
 obtain ⟨R, hR⟩ : ∃ R, left - (iC d.fds + rO d.tun) = R := ⟨_, rfl⟩
 rw [hR]
 go_enter Tryz.func40, Tryz.ntmps40
 go_wp2_with fail
 refine (TT d.fds _ left _ (HV.out.new HB) h0 h1).mono ?_; rintro x w1 ⟨rfl | ⟨rfl, hp⟩, hb⟩
 ·replace HB := ah HB hb
  go_wp2_with fail
  go_ret
  exact ⟨.inl rfl, HB⟩
 obtain ⟨q, hq⟩ : ∃ q, left - iC d.fds = q := ⟨_, rfl⟩
 rw [hq] at hp ⊢
 have hq0 : ¬ q < 0 := by omega
 replace RX := RX.new hb
 replace HB := ah HB hb
 clear hb
 have x4 := ak 4 RX rfl
 have x5 := ak 5 RX rfl
 have x6 := ak 6 RX rfl
 have x7 := ak 7 RX rfl
 have x8 := ak 8 RX rfl
 have x9 := ak 9 RX rfl
 have x10 := ak 10 RX rfl
 have bC := ak 11 RX rfl
 have bS := ak 12 RX rfl
 have oF := ak 13 RX rfl
 have xf := fun j => aj.frozen RX j
 have xl := RX.lt
 go_wp2_with fail
 clear x4 x5 x6 x7 x8 x9 x10 bC bS oF xf xl
 refine (TQ d.tun q _ hf0 hf1 hp (by omega)).mono ?_; rintro x w2 ⟨rfl | ⟨rfl, hp2⟩, hb⟩
 ·replace HB := ah HB hb
  go_wp2_with fail
  go_ret
  exact ⟨.inl rfl, HB⟩
 have hq3 : q - rO d.tun = R := by omega
 rw [hq3] at hp2 ⊢
 have TR : ¬ R < 0 := by omega
 clear hR hq hq3
 replace HB := ah HB hb
 go_wp2_with fail
 go_ret
 exact ⟨.inr ⟨rfl, hp2⟩, HB⟩
set_option maxHeartbeats 2000000 in
theorem TU (L : List aV) (v : Value) (w : World) (hr : aT bF w v L) (hz : kH L ≤ 1048576) :
  Calls Tryz.prog 22 #[v] w fun x w' => ∃ v', x = .returned v' ∧ aD bF w' w.heap.size w'.heap.size v' L ∧ Below w.heap.size w w' := by
 have hL : L.length ≤ 1048576 := by have := TH L; omega
 obtain ⟨M, hM, hmk⟩ := Gb 38 92 (.agg #[.int .i64 0, .int .i64 0, .int .i64 0, .slice none 0 0, .int .i64 0, .string ⟨#[]⟩, .bool false, .bool false, .int .i64 0, .string ⟨#[]⟩, .bool false, .bool false, .int .i64 0, .int .i64 0, .bool false]) 15 136 Tryz.underlying38 (by kernel_rfl) rfl (by decide) (by decide) L.length hL
 have hst := LG (E := bF) (Gc w M 92 15 L.length hM hL)
 obtain ⟨ad, cap, rfl, h1, h2⟩ := hr.form
 have HR := hide hr
 clear hr
 have HZ := hide hz
 clear hz
 go_enter Tryz.func22, Tryz.ntmps22
 go_wp2_with fail
 go_loopw [4] (fun i wr => ∃ (k : Nat), i = .int .i64 k ∧ k ≤ L.length ∧ Hid (yc bF w wr L k)) (fun i _ => L.length - (intOf i).toNat)
 case atStart => exact ⟨0, rfl, Nat.zero_le _, hst⟩
 case round =>
  clear hst hmk
  obtain ⟨k, rfl, hk, nu⟩ := hrel
  by_cases hlt : k < L.length
  ·have hb : Below w.heap.size w wr := nu.out.2.1
   have iD := (HR.out.new hb).at k hlt
   have hmem : L[k] ∈ L := List.getElem_mem hlt
   obtain ⟨d, hd⟩ : ∃ d, d = L[k] := ⟨_, rfl⟩
   rw [← hd] at iD hmem
   obtain ⟨b, o, cs, rfl, hbw, hrd, hc⟩ := iD
   obtain ⟨iB, rfl, hf0, hf1, fq⟩ := hrd
   have um := hide fq
   obtain ⟨yg, yh, rfl, _⟩ := fq.form
   clear fq
   have hzd : gM d ≤ 1048576 := by have := TF hmem; have := HZ.out; omega
   have c0 : wr.cell? ⟨b, o + k * 15, none⟩ = some (.int .i64 d.id) := hc 0 _ rfl
   have c1 : wr.cell? ⟨b, o + k * 15 + 1, none⟩ = some (.int .i64 d.get) := hc 1 _ rfl
   have c2 : wr.cell? ⟨b, o + k * 15 + 2, none⟩ = some (.int .i64 d.give) := hc 2 _ rfl
   have c3 : wr.cell? ⟨b, o + k * 15 + 3, none⟩ = some ((.slice yg d.fds.length yh)) := hc 3 _ rfl
   have c4 : wr.cell? ⟨b, o + k * 15 + 4, none⟩ = some (.int .i64 d.tun.up.r) := hc 4 _ rfl
   have c5 : wr.cell? ⟨b, o + k * 15 + 5, none⟩ = some (.string d.tun.up.b) := hc 5 _ rfl
   have c6 : wr.cell? ⟨b, o + k * 15 + 6, none⟩ = some (.bool d.tun.up.e) := hc 6 _ rfl
   have c7 : wr.cell? ⟨b, o + k * 15 + 7, none⟩ = some (.bool d.tun.up.k) := hc 7 _ rfl
   have c8 : wr.cell? ⟨b, o + k * 15 + 8, none⟩ = some (.int .i64 d.tun.dn.r) := hc 8 _ rfl
   have c9 : wr.cell? ⟨b, o + k * 15 + 9, none⟩ = some (.string d.tun.dn.b) := hc 9 _ rfl
   have c10 : wr.cell? ⟨b, o + k * 15 + 10, none⟩ = some (.bool d.tun.dn.e) := hc 10 _ rfl
   have c11 : wr.cell? ⟨b, o + k * 15 + 11, none⟩ = some (.bool d.tun.dn.k) := hc 11 _ rfl
   have c12 : wr.cell? ⟨b, o + k * 15 + 12, none⟩ = some (.int .i64 d.tun.went) := hc 12 _ rfl
   have c13 : wr.cell? ⟨b, o + k * 15 + 13, none⟩ = some (.int .i64 d.tun.came) := hc 13 _ rfl
   have c14 : wr.cell? ⟨b, o + k * 15 + 14, none⟩ = some (.bool d.ended) := hc 14 _ rfl
   clear hc
   have HD := hide hd
   clear hd hmem
   go_wp2_with fail
   refine (TI d _ _ um.out hf0 hf1 hzd).mono ?_
   rintro x w1 ⟨abl, rfl, Gd, hb1⟩
   obtain ⟨dN, dO, rfl, _⟩ := Gd.form
   have hoe : kJ bF w1 wr.heap.size w1.heap.size [.int .i64 d.id, .int .i64 d.get, .int .i64 d.give, .slice dN d.fds.length dO, .int .i64 d.tun.up.r, .string d.tun.up.b, .bool d.tun.up.e, .bool d.tun.up.k, .int .i64 d.tun.dn.r, .string d.tun.dn.b, .bool d.tun.dn.e, .bool d.tun.dn.k, .int .i64 d.tun.went, .int .i64 d.tun.came, .bool d.ended] d := by
    obtain ⟨bs, g1, g2, g3⟩ := Gd
    exact ⟨bs, ⟨_, _, rfl, hf0, hf1, g1, rfl⟩, g2, g3⟩
   clear Gd
   rw [HD.out] at hoe
   obtain ⟨hcell, hfr, TV, hfi⟩ := LH nu.out hlt hb1 hoe
   rw [← HD.out] at hfi
   obtain ⟨x0, hx0⟩ : ∃ u, w1.cell? ⟨w.heap.size, k * 15, none⟩ = some u := hcell 0 (by decide)
   obtain ⟨x1, hx1⟩ : ∃ u, w1.cell? ⟨w.heap.size, k * 15 + 1, none⟩ = some u := hcell 1 (by decide)
   obtain ⟨x2, hx2⟩ : ∃ u, w1.cell? ⟨w.heap.size, k * 15 + 2, none⟩ = some u := hcell 2 (by decide)
   obtain ⟨x3, hx3⟩ : ∃ u, w1.cell? ⟨w.heap.size, k * 15 + 3, none⟩ = some u := hcell 3 (by decide)
   obtain ⟨x4, hx4⟩ : ∃ u, w1.cell? ⟨w.heap.size, k * 15 + 4, none⟩ = some u := hcell 4 (by decide)
   obtain ⟨x5, hx5⟩ : ∃ u, w1.cell? ⟨w.heap.size, k * 15 + 5, none⟩ = some u := hcell 5 (by decide)
   obtain ⟨x6, hx6⟩ : ∃ u, w1.cell? ⟨w.heap.size, k * 15 + 6, none⟩ = some u := hcell 6 (by decide)
   obtain ⟨x7, hx7⟩ : ∃ u, w1.cell? ⟨w.heap.size, k * 15 + 7, none⟩ = some u := hcell 7 (by decide)
   obtain ⟨x8, hx8⟩ : ∃ u, w1.cell? ⟨w.heap.size, k * 15 + 8, none⟩ = some u := hcell 8 (by decide)
   obtain ⟨x9, qp⟩ : ∃ u, w1.cell? ⟨w.heap.size, k * 15 + 9, none⟩ = some u := hcell 9 (by decide)
   obtain ⟨x10, hx10⟩ : ∃ u, w1.cell? ⟨w.heap.size, k * 15 + 10, none⟩ = some u := hcell 10 (by decide)
   obtain ⟨bC, hx11⟩ : ∃ u, w1.cell? ⟨w.heap.size, k * 15 + 11, none⟩ = some u := hcell 11 (by decide)
   obtain ⟨bS, hx12⟩ : ∃ u, w1.cell? ⟨w.heap.size, k * 15 + 12, none⟩ = some u := hcell 12 (by decide)
   obtain ⟨oF, hx13⟩ : ∃ u, w1.cell? ⟨w.heap.size, k * 15 + 13, none⟩ = some u := hcell 13 (by decide)
   obtain ⟨wz, hx14⟩ : ∃ u, w1.cell? ⟨w.heap.size, k * 15 + 14, none⟩ = some u := hcell 14 (by decide)
   have e6 := hfr
   have lI := hide hfi
   clear hcell hfr hfi hoe
   go_wp2_with fail
   go_roundw
   case rel => exact ⟨k + 1, by go_num, by omega, lI.out⟩
   case measure => simp [intOf]; omega
  ·obtain rfl : k = L.length := by omega
   obtain ⟨hox, hbx⟩ := LJ nu.out
   have HX := hide hox
   clear hox
   go_wp2_with fail
   go_ret
   exact ⟨_, rfl, HX.out, hbx⟩
set_option maxHeartbeats 1000000 in
theorem TW (L : List aV) (v v' : Value) (w : World) (hr0 : aT bF w v L) (hr1 : aT bF w v' L) :
  Calls Tryz.prog 29 #[v, v'] w fun x w' => x = .returned (.bool true) ∧ Below w.heap.size w w' := by
 obtain ⟨ad, cap, rfl, h1, h2⟩ := hr0.form
 obtain ⟨oJ, cap', rfl, h1', h2'⟩ := hr1.form
 have HR := hide hr0; have HR' := hide hr1
 clear hr0 hr1
 go_enter Tryz.func29, Tryz.ntmps29
 go_wp2_with fail
 go_loopw [5] (fun i wr => ∃ (k : Nat), i = .int .i64 k ∧ k ≤ L.length ∧ Below w.heap.size w wr) (fun i _ => L.length - (intOf i).toNat)
 case atStart => exact ⟨0, rfl, Nat.zero_le _, Below.refl _ _⟩
 case round =>
  obtain ⟨k, rfl, hk, hb⟩ := hrel
  by_cases hlt : k < L.length
  ·have iD := (HR.out.new hb).at k hlt
   have zT := (HR'.out.new hb).at k hlt
   obtain ⟨d, hd⟩ : ∃ d, d = L[k] := ⟨_, rfl⟩
   rw [← hd] at iD zT
   clear hd
   obtain ⟨b, o, cs, rfl, hb1, hrd, hc⟩ := iD
   obtain ⟨b', o', cs', rfl, hb2, Gf, hc'⟩ := zT
   obtain ⟨iB, rfl, hf0, hf1, fq⟩ := hrd
   have um := hide fq
   obtain ⟨yg, yh, rfl, _⟩ := fq.form
   clear fq
   obtain ⟨abm, rfl, hfu0, hfu1, Gg⟩ := Gf
   have TY := hide Gg
   obtain ⟨LK, LM, rfl, _⟩ := Gg.form
   clear Gg
   have c0 : wr.cell? ⟨b, o + k * 15, none⟩ = some (.int .i64 d.id) := hc 0 _ rfl
   have c1 : wr.cell? ⟨b, o + k * 15 + 1, none⟩ = some (.int .i64 d.get) := hc 1 _ rfl
   have c2 : wr.cell? ⟨b, o + k * 15 + 2, none⟩ = some (.int .i64 d.give) := hc 2 _ rfl
   have c3 : wr.cell? ⟨b, o + k * 15 + 3, none⟩ = some ((.slice yg d.fds.length yh)) := hc 3 _ rfl
   have c4 : wr.cell? ⟨b, o + k * 15 + 4, none⟩ = some (.int .i64 d.tun.up.r) := hc 4 _ rfl
   have c5 : wr.cell? ⟨b, o + k * 15 + 5, none⟩ = some (.string d.tun.up.b) := hc 5 _ rfl
   have c6 : wr.cell? ⟨b, o + k * 15 + 6, none⟩ = some (.bool d.tun.up.e) := hc 6 _ rfl
   have c7 : wr.cell? ⟨b, o + k * 15 + 7, none⟩ = some (.bool d.tun.up.k) := hc 7 _ rfl
   have c8 : wr.cell? ⟨b, o + k * 15 + 8, none⟩ = some (.int .i64 d.tun.dn.r) := hc 8 _ rfl
   have c9 : wr.cell? ⟨b, o + k * 15 + 9, none⟩ = some (.string d.tun.dn.b) := hc 9 _ rfl
   have c10 : wr.cell? ⟨b, o + k * 15 + 10, none⟩ = some (.bool d.tun.dn.e) := hc 10 _ rfl
   have c11 : wr.cell? ⟨b, o + k * 15 + 11, none⟩ = some (.bool d.tun.dn.k) := hc 11 _ rfl
   have c12 : wr.cell? ⟨b, o + k * 15 + 12, none⟩ = some (.int .i64 d.tun.went) := hc 12 _ rfl
   have c13 : wr.cell? ⟨b, o + k * 15 + 13, none⟩ = some (.int .i64 d.tun.came) := hc 13 _ rfl
   have c14 : wr.cell? ⟨b, o + k * 15 + 14, none⟩ = some (.bool d.ended) := hc 14 _ rfl
   have d0 : wr.cell? ⟨b', o' + k * 15, none⟩ = some (.int .i64 d.id) := hc' 0 _ rfl
   have d1 : wr.cell? ⟨b', o' + k * 15 + 1, none⟩ = some (.int .i64 d.get) := hc' 1 _ rfl
   have d2 : wr.cell? ⟨b', o' + k * 15 + 2, none⟩ = some (.int .i64 d.give) := hc' 2 _ rfl
   have d3 : wr.cell? ⟨b', o' + k * 15 + 3, none⟩ = some ((.slice LK d.fds.length LM)) := hc' 3 _ rfl
   have d4 : wr.cell? ⟨b', o' + k * 15 + 4, none⟩ = some (.int .i64 d.tun.up.r) := hc' 4 _ rfl
   have d5 : wr.cell? ⟨b', o' + k * 15 + 5, none⟩ = some (.string d.tun.up.b) := hc' 5 _ rfl
   have d6 : wr.cell? ⟨b', o' + k * 15 + 6, none⟩ = some (.bool d.tun.up.e) := hc' 6 _ rfl
   have d7 : wr.cell? ⟨b', o' + k * 15 + 7, none⟩ = some (.bool d.tun.up.k) := hc' 7 _ rfl
   have d8 : wr.cell? ⟨b', o' + k * 15 + 8, none⟩ = some (.int .i64 d.tun.dn.r) := hc' 8 _ rfl
   have d9 : wr.cell? ⟨b', o' + k * 15 + 9, none⟩ = some (.string d.tun.dn.b) := hc' 9 _ rfl
   have LP : wr.cell? ⟨b', o' + k * 15 + 10, none⟩ = some (.bool d.tun.dn.e) := hc' 10 _ rfl
   have LQ : wr.cell? ⟨b', o' + k * 15 + 11, none⟩ = some (.bool d.tun.dn.k) := hc' 11 _ rfl
   have LU : wr.cell? ⟨b', o' + k * 15 + 12, none⟩ = some (.int .i64 d.tun.went) := hc' 12 _ rfl
   have LV : wr.cell? ⟨b', o' + k * 15 + 13, none⟩ = some (.int .i64 d.tun.came) := hc' 13 _ rfl
   have LW : wr.cell? ⟨b', o' + k * 15 + 14, none⟩ = some (.bool d.ended) := hc' 14 _ rfl
   clear hc hc'
   go_wp2_with fail
   have T9 : ∀ y : Later wr, y.w.cell? ⟨b, o + k * 15, none⟩ = some (.int .i64 d.id) := fun y => (y.b.cell (p := ⟨b, o + k * 15, none⟩) hb1).trans c0
   have Ua : ∀ y : Later wr, y.w.cell? ⟨b, o + k * 15 + 1, none⟩ = some (.int .i64 d.get) := fun y => (y.b.cell (p := ⟨b, o + k * 15 + 1, none⟩) hb1).trans c1
   have qa2 : ∀ y : Later wr, y.w.cell? ⟨b, o + k * 15 + 2, none⟩ = some (.int .i64 d.give) := fun y => (y.b.cell (p := ⟨b, o + k * 15 + 2, none⟩) hb1).trans c2
   have qa3 : ∀ y : Later wr, y.w.cell? ⟨b, o + k * 15 + 3, none⟩ = some ((.slice yg d.fds.length yh)) := fun y => (y.b.cell (p := ⟨b, o + k * 15 + 3, none⟩) hb1).trans c3
   have qa4 : ∀ y : Later wr, y.w.cell? ⟨b, o + k * 15 + 4, none⟩ = some (.int .i64 d.tun.up.r) := fun y => (y.b.cell (p := ⟨b, o + k * 15 + 4, none⟩) hb1).trans c4
   have qa5 : ∀ y : Later wr, y.w.cell? ⟨b, o + k * 15 + 5, none⟩ = some (.string d.tun.up.b) := fun y => (y.b.cell (p := ⟨b, o + k * 15 + 5, none⟩) hb1).trans c5
   have qa6 : ∀ y : Later wr, y.w.cell? ⟨b, o + k * 15 + 6, none⟩ = some (.bool d.tun.up.e) := fun y => (y.b.cell (p := ⟨b, o + k * 15 + 6, none⟩) hb1).trans c6
   have qa7 : ∀ y : Later wr, y.w.cell? ⟨b, o + k * 15 + 7, none⟩ = some (.bool d.tun.up.k) := fun y => (y.b.cell (p := ⟨b, o + k * 15 + 7, none⟩) hb1).trans c7
   have qa8 : ∀ y : Later wr, y.w.cell? ⟨b, o + k * 15 + 8, none⟩ = some (.int .i64 d.tun.dn.r) := fun y => (y.b.cell (p := ⟨b, o + k * 15 + 8, none⟩) hb1).trans c8
   have qa9 : ∀ y : Later wr, y.w.cell? ⟨b, o + k * 15 + 9, none⟩ = some (.string d.tun.dn.b) := fun y => (y.b.cell (p := ⟨b, o + k * 15 + 9, none⟩) hb1).trans c9
   have qa10 : ∀ y : Later wr, y.w.cell? ⟨b, o + k * 15 + 10, none⟩ = some (.bool d.tun.dn.e) := fun y => (y.b.cell (p := ⟨b, o + k * 15 + 10, none⟩) hb1).trans c10
   have qa11 : ∀ y : Later wr, y.w.cell? ⟨b, o + k * 15 + 11, none⟩ = some (.bool d.tun.dn.k) := fun y => (y.b.cell (p := ⟨b, o + k * 15 + 11, none⟩) hb1).trans c11
   have qa12 : ∀ y : Later wr, y.w.cell? ⟨b, o + k * 15 + 12, none⟩ = some (.int .i64 d.tun.went) := fun y => (y.b.cell (p := ⟨b, o + k * 15 + 12, none⟩) hb1).trans c12
   have qa13 : ∀ y : Later wr, y.w.cell? ⟨b, o + k * 15 + 13, none⟩ = some (.int .i64 d.tun.came) := fun y => (y.b.cell (p := ⟨b, o + k * 15 + 13, none⟩) hb1).trans c13
   have qa14 : ∀ y : Later wr, y.w.cell? ⟨b, o + k * 15 + 14, none⟩ = some (.bool d.ended) := fun y => (y.b.cell (p := ⟨b, o + k * 15 + 14, none⟩) hb1).trans c14
   have Ub : ∀ y : Later wr, y.w.cell? ⟨b', o' + k * 15, none⟩ = some (.int .i64 d.id) := fun y => (y.b.cell (p := ⟨b', o' + k * 15, none⟩) hb2).trans d0
   have Uc : ∀ y : Later wr, y.w.cell? ⟨b', o' + k * 15 + 1, none⟩ = some (.int .i64 d.get) := fun y => (y.b.cell (p := ⟨b', o' + k * 15 + 1, none⟩) hb2).trans d1
   have qb2 : ∀ y : Later wr, y.w.cell? ⟨b', o' + k * 15 + 2, none⟩ = some (.int .i64 d.give) := fun y => (y.b.cell (p := ⟨b', o' + k * 15 + 2, none⟩) hb2).trans d2
   have qb3 : ∀ y : Later wr, y.w.cell? ⟨b', o' + k * 15 + 3, none⟩ = some ((.slice LK d.fds.length LM)) := fun y => (y.b.cell (p := ⟨b', o' + k * 15 + 3, none⟩) hb2).trans d3
   have qb4 : ∀ y : Later wr, y.w.cell? ⟨b', o' + k * 15 + 4, none⟩ = some (.int .i64 d.tun.up.r) := fun y => (y.b.cell (p := ⟨b', o' + k * 15 + 4, none⟩) hb2).trans d4
   have qb5 : ∀ y : Later wr, y.w.cell? ⟨b', o' + k * 15 + 5, none⟩ = some (.string d.tun.up.b) := fun y => (y.b.cell (p := ⟨b', o' + k * 15 + 5, none⟩) hb2).trans d5
   have qb6 : ∀ y : Later wr, y.w.cell? ⟨b', o' + k * 15 + 6, none⟩ = some (.bool d.tun.up.e) := fun y => (y.b.cell (p := ⟨b', o' + k * 15 + 6, none⟩) hb2).trans d6
   have qb7 : ∀ y : Later wr, y.w.cell? ⟨b', o' + k * 15 + 7, none⟩ = some (.bool d.tun.up.k) := fun y => (y.b.cell (p := ⟨b', o' + k * 15 + 7, none⟩) hb2).trans d7
   have qb8 : ∀ y : Later wr, y.w.cell? ⟨b', o' + k * 15 + 8, none⟩ = some (.int .i64 d.tun.dn.r) := fun y => (y.b.cell (p := ⟨b', o' + k * 15 + 8, none⟩) hb2).trans d8
   have qb9 : ∀ y : Later wr, y.w.cell? ⟨b', o' + k * 15 + 9, none⟩ = some (.string d.tun.dn.b) := fun y => (y.b.cell (p := ⟨b', o' + k * 15 + 9, none⟩) hb2).trans d9
   have qb10 : ∀ y : Later wr, y.w.cell? ⟨b', o' + k * 15 + 10, none⟩ = some (.bool d.tun.dn.e) := fun y => (y.b.cell (p := ⟨b', o' + k * 15 + 10, none⟩) hb2).trans LP
   have qb11 : ∀ y : Later wr, y.w.cell? ⟨b', o' + k * 15 + 11, none⟩ = some (.bool d.tun.dn.k) := fun y => (y.b.cell (p := ⟨b', o' + k * 15 + 11, none⟩) hb2).trans LQ
   have qb12 : ∀ y : Later wr, y.w.cell? ⟨b', o' + k * 15 + 12, none⟩ = some (.int .i64 d.tun.went) := fun y => (y.b.cell (p := ⟨b', o' + k * 15 + 12, none⟩) hb2).trans LU
   have qb13 : ∀ y : Later wr, y.w.cell? ⟨b', o' + k * 15 + 13, none⟩ = some (.int .i64 d.tun.came) := fun y => (y.b.cell (p := ⟨b', o' + k * 15 + 13, none⟩) hb2).trans LV
   have qb14 : ∀ y : Later wr, y.w.cell? ⟨b', o' + k * 15 + 14, none⟩ = some (.bool d.ended) := fun y => (y.b.cell (p := ⟨b', o' + k * 15 + 14, none⟩) hb2).trans LW
   clear c0 c1 c2 c3 c4 c5 c6 c7 c8 c9 c10 c11 c12 c13 c14 d0 d1 d2 d3 d4 d5 d6 d7 d8 d9 LP LQ LU LV LW
   have hne : Nonempty (Later wr) := ⟨⟨wr, Below.refl _ _⟩⟩; refine eH (by kernel_rfl) (by kernel_rfl) ?_
   repeat (go_big_quiet_step (fail))
   go_big_quiet_want; go_big_quiet_op
   refine ⟨.bool true, fun y => gW (x := y) (TM d _ _ y.w (um.out.new y.b) hf0 hf1 (TY.out.new y.b)), ?_⟩
   go_big_quiet_on
   repeat (go_big_quiet_step (fail))
   refine wpQuiet_nil ?_; intro _ hw'; obtain ⟨y, hw''⟩ := hw'; subst hw''; have hby := y.b
   go_wp2_with fail
   go_roundw
   case rel => exact ⟨k + 1, by go_num, by omega, ah hb hby⟩
   case measure => simp [intOf]; omega
  ·go_wp2_with fail
   go_ret
   exact ⟨rfl, hb⟩
set_option maxHeartbeats 1000000 in
theorem Ud (L : List aV) (v : Value) (left : Int) (w : World) (hr : aT bF w v L) (h0 : 0 ≤ left) (h1 : left ≤ 1048576) :
  Calls Tryz.prog 16 #[v, .int .i64 left] w fun x w' => (x = .returned (.int .i64 (-1)) ∨ (x = .returned (.int .i64 (left - kH L)) ∧ 0 ≤ left - kH L)) ∧ Below w.heap.size w w' := by
 obtain ⟨ad, cap, rfl, h2, h3⟩ := hr.form
 have HR := hide hr
 clear hr
 unfold kH
 by_cases h : left - L.length < 0
 ·go_enter Tryz.func16, Tryz.ntmps16
  go_wp2
  go_ret
  exact ⟨.inl rfl, Below.refl _ _⟩
 ·go_enter Tryz.func16, Tryz.ntmps16
  go_wp2_with fail
  go_loopw [1, 5] (fun l i wr => ∃ (k : Nat), i = .int .i64 k ∧ k ≤ L.length ∧ l = .int .i64 (left - L.length - eZ gM (L.take k)) ∧ 0 ≤ left - L.length - eZ gM (L.take k) ∧ Below w.heap.size w wr) (fun _ i _ => L.length - (intOf i).toNat)
  case atStart => exact ⟨0, rfl, Nat.zero_le _, by simp [eZ], by simp [eZ]; omega, Below.refl _ _⟩
  case round =>
   obtain ⟨k, rfl, hk, rfl, hk0, hb⟩ := hrel
   by_cases hlt : k < L.length
   ·have iD := (HR.out.new hb).at k hlt
    have hsn := Gh gM L k hlt
    have hnn := zR gM zQ (L.take k)
    obtain ⟨d, hd⟩ : ∃ d, d = L[k] := ⟨_, rfl⟩
    rw [← hd] at iD hsn
    clear hd
    obtain ⟨b, o, cs, rfl, hb1, hrd, hc⟩ := iD
    obtain ⟨iB, rfl, hf0, hf1, fq⟩ := hrd
    have um := hide fq
    obtain ⟨yg, yh, rfl, _⟩ := fq.form
    clear fq
    have c0 : wr.cell? ⟨b, o + k * 15, none⟩ = some (.int .i64 d.id) := hc 0 _ rfl
    have c1 : wr.cell? ⟨b, o + k * 15 + 1, none⟩ = some (.int .i64 d.get) := hc 1 _ rfl
    have c2 : wr.cell? ⟨b, o + k * 15 + 2, none⟩ = some (.int .i64 d.give) := hc 2 _ rfl
    have c3 : wr.cell? ⟨b, o + k * 15 + 3, none⟩ = some ((.slice yg d.fds.length yh)) := hc 3 _ rfl
    have c4 : wr.cell? ⟨b, o + k * 15 + 4, none⟩ = some (.int .i64 d.tun.up.r) := hc 4 _ rfl
    have c5 : wr.cell? ⟨b, o + k * 15 + 5, none⟩ = some (.string d.tun.up.b) := hc 5 _ rfl
    have c6 : wr.cell? ⟨b, o + k * 15 + 6, none⟩ = some (.bool d.tun.up.e) := hc 6 _ rfl
    have c7 : wr.cell? ⟨b, o + k * 15 + 7, none⟩ = some (.bool d.tun.up.k) := hc 7 _ rfl
    have c8 : wr.cell? ⟨b, o + k * 15 + 8, none⟩ = some (.int .i64 d.tun.dn.r) := hc 8 _ rfl
    have c9 : wr.cell? ⟨b, o + k * 15 + 9, none⟩ = some (.string d.tun.dn.b) := hc 9 _ rfl
    have c10 : wr.cell? ⟨b, o + k * 15 + 10, none⟩ = some (.bool d.tun.dn.e) := hc 10 _ rfl
    have c11 : wr.cell? ⟨b, o + k * 15 + 11, none⟩ = some (.bool d.tun.dn.k) := hc 11 _ rfl
    have c12 : wr.cell? ⟨b, o + k * 15 + 12, none⟩ = some (.int .i64 d.tun.went) := hc 12 _ rfl
    have c13 : wr.cell? ⟨b, o + k * 15 + 13, none⟩ = some (.int .i64 d.tun.came) := hc 13 _ rfl
    have c14 : wr.cell? ⟨b, o + k * 15 + 14, none⟩ = some (.bool d.ended) := hc 14 _ rfl
    clear hc
    generalize hq : eZ gM (List.take k L) = q at *
    generalize hq' : eZ gM (List.take (k + 1) L) = q' at *
    have HQ := hide hq'
    have LX := hide hsn
    clear hq hq' hsn
    go_wp2_with fail
    refine (TS d _ _ _ um.out hf0 hf1 (by omega) (by omega)).mono ?_
    rintro x w1 ⟨rfl | ⟨rfl, hp⟩, hb1⟩
    ·go_wp2_with fail
     go_ret
     exact ⟨.inl rfl, ah hb hb1⟩
    ·have hp' : ¬ left - L.length - q - gM d < 0 := by omega
     generalize hX : left - L.length - q - gM d = X at *
     have HX := hide hX
     clear hX
     go_wp2_with fail
     go_roundw
     case rel => exact ⟨k + 1, by go_num, by omega, int_eq (by have := HX.out; have := HQ.out; have := LX.out; omega), by have := HX.out; have := HQ.out; have := LX.out; omega, ah hb hb1⟩
     case measure => simp [intOf]; omega
   ·obtain rfl : k = L.length := by omega
    rw [List.take_length] at *
    obtain ⟨X, hX⟩ : ∃ X, left - L.length - eZ gM L = X := ⟨_, rfl⟩
    rw [hX] at hk0 ⊢
    have HX := hide hX
    clear hX
    go_wp2_with fail
    go_ret
    have e : left - (L.length + eZ gM L) = X := by have := HX.out; omega
    rw [e]
    have := zQ
    exact ⟨.inr ⟨rfl, hk0⟩, hb⟩
end Go.Proofs.YtlpbnkideaojeaaGreatDoor
