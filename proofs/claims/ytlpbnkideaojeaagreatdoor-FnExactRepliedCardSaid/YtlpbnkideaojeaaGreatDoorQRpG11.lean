/- Lemmas. -/
import Derived.Test.YtlpbnkideaojeaaGreatDoorQRpRing4
import Derived.Test.YtlpbnkideaojeaaGreatDoorQRpG10
namespace Go.Proofs.YtlpbnkideaojeaaGreatDoor
open Go.RowKit
set_option maxRecDepth 100000
set_option linter.unusedSimpArgs false
set_option linter.unusedVariables false
def lits (f : Fd) : List Lit := [.string f.n.data.toList, .string f.v.data.toList]
theorem YZ {f g : Fd} (h : lits f = lits g) : f = g := by
 obtain ⟨⟨⟨a⟩⟩, ⟨⟨b⟩⟩⟩ := f
 obtain ⟨⟨⟨c⟩⟩, ⟨⟨d⟩⟩⟩ := g
 simp only [lits, List.cons.injEq, Lit.string.injEq, and_true] at h
 obtain ⟨h1, h2⟩ := h
 subst h1 h2
 rfl
theorem OH : ∀ {A B : List Fd}, A.length = B.length → A.flatMap lits = B.flatMap lits → A = B
 | [], [], _, _ => rfl
 | [], _ :: _, h, _ => by simp at h
 | _ :: _, [], h, _ => by simp at h
 | f :: A, g :: B, h, e => by
  simp only [List.flatMap_cons] at e
  have := List.append_inj e rfl
  rw [YZ this.1, OH (by simpa using h) this.2]
theorem mapM_some {α β : Type} (g : α → Option β) (h : α → β) : ∀ l : List α, (∀ i ∈ l, g i = some (h i)) → l.mapM g = some (l.map h)
 | [], _ => by simp
 | a :: l, H => by
  rw [List.mapM_cons, H a (by simp), mapM_some g h l fun i hi => H i (by simp [hi])]
  rfl
theorem Y0 (L : List Fd) (i : Nat) (hi : i < L.length) : ((fv L).drop (i * 2)).take 2 = L[i].cs := by
 have h1 : fv L = fv (L.take i) ++ (L[i].cs ++ fv (L.drop (i + 1))) := by
  conv => lhs; rw [← List.take_append_drop i L, List.drop_eq_getElem_cons hi, yA]
  simp only [fv, List.flatMap_cons]
 have h2 : (fv (L.take i)).length = i * 2 := by rw [gY, List.length_take]; omega
 rw [h1, List.drop_append_of_le_length (by omega), List.drop_of_length_le (by omega), List.nil_append, List.take_append_of_le_length (by simp [Fd.cs])]
 rfl
theorem Y2 (f : Fd) (hf : f.fine) : Tryz.prog.keyLits 2 104 f.cs = some (lits f) := by
 obtain ⟨h1, h2⟩ := hf
 have e1 : Tryz.prog.cellsOf 104 = 2 := by kernel_rfl
 have e2 : Tryz.prog.cellsOf 9 = 1 := by kernel_rfl
 have m1 : f.n.size ≤ maxLen := by unfold maxLen; omega
 have m2 : f.v.size ≤ maxLen := by unfold maxLen; omega
 simp [Program.keyLits, Tryz.underlying104, Tryz.underlying9, e1, e2, Fd.cs, m1, m2, lits]
theorem OL (sl : List Fd) (hs : sl.length = 112) (hf : ∀ f ∈ sl, f.fine) : Tryz.prog.keyLits 3 170 (fv sl) = some (sl.flatMap lits) := by
 have e1 : Tryz.prog.cellsOf 104 = 2 := by kernel_rfl
 have e2 : Tryz.prog.cellsOf 170 = 224 := by kernel_rfl
 have hl : (fv sl).length = 224 := by rw [gY, hs]
 unfold Program.keyLits
 simp only [Tryz.underlying170, e2, hl, if_true, e1]
 rw [mapM_some _ (fun i => lits (sl.getD i zF)) _ (fun i hi => by
  have hi' : i < sl.length := by rw [hs]; simpa using hi
  rw [Y0 sl i hi', Y2 _ (hf _ (List.getElem_mem hi'))]
  simp [hi'])]
 have : (List.range 112).map (fun i => sl.getD i zF) = sl := by
  refine List.ext_getElem (by simp [hs]) fun i h1 h2 => ?_
  simp [h2]
 conv => rhs; rw [← this]
 simp [List.flatMap_def, Function.comp_def]
theorem YR (sl sl' : List Fd) (hs : sl.length = 112) (hs' : sl'.length = 112) (hf : ∀ f ∈ sl, f.fine) (hf' : ∀ f ∈ sl', f.fine) (c : Bool) (hc : c = true ↔ sl = sl') (w : World) :
  (binOp .eql 170 (.agg (fv sl).toArray) (.agg (fv sl').toArray)).run Tryz.prog w = .ok (.bool c) w := by
 have fm : ∀ L : List Fd, L.length = 112 → (Value.agg (fv L).toArray).formed Tryz.prog 170 = true := fun L hL => by
  have e2 : Tryz.prog.cellsOf 170 = 224 := by kernel_rfl
  simp [Value.formed, Tryz.underlying170, e2, gY, hL]
 obtain ⟨r, hr, hiff⟩ := run_equalIn_deep (P := Tryz.prog) 9997 3 170 (by kernel_rfl) w 3 3 (.agg (fv sl).toArray) (.agg (fv sl').toArray) (sl.flatMap lits) (sl'.flatMap lits) (fm sl hs) (fm sl' hs') (by simpa [Value.cells] using OL sl hs hf) (by simpa [Value.cells] using OL sl' hs' hf')
 have hrc : r = c := by
  have h1 : (sl.flatMap lits = sl'.flatMap lits) ↔ sl = sl' := ⟨OH (by omega), fun e => by rw [e]⟩
  rw [h1, ← hc] at hiff
  cases r <;> cases c <;> simp_all
 rw [run_eql_struct, hr, hrc]
 rfl
section
variable {P : Program}
theorem YW {ops : Array Oper} {S : World → Prop} {op : Oper} {a : Act} (hw : Region.wanted op (yielded ops a.tmps) = true) (ty : TypeId) (x : Operand) (ho : op.op = .load ty x)
  (b : Nat) (hx : a.eval x = .pointer (some ⟨b, 0, none⟩)) (cs : List Value) (d : TypeDesc) (t : TypeId) (hS : ∀ w, S w → aj w b t cs)
  (hu : P.underlying ty = some d) (hd : (match d with | .struct _ | .array _ _ => true | _ => false) = true) (hi : (P.info? ty).map (·.size) = some cs.length) : YieldsIf P ops S op (.agg cs.toArray) a :=
 .inl ⟨hw, fun w hw' => by
  unfold execOp
  simp only [ho, hx, Instr.loadAt, Instr.sureAddr, Sem.run_bind, Sem.run_pure, Result.andThen_ok, run_loadVar_row w b t ty cs.toArray (0, 0) d (hS w hw') hu hd (by simpa using hi)]⟩
end
theorem YN {w : World} {b : Nat} {t : TypeId} {xs ys : List Value} (h : aj w b t (xs ++ ys)) : w.rangeAt b 0 xs := fun j v hv => by
 rw [Nat.zero_add]
 exact h.cell (by rw [List.getElem?_append_left (List.getElem?_eq_some_iff.1 hv).1]; exact hv)
def bR : List Value := rC (cu 0 []) 0 0 0
theorem jd : (∀ w, (zeroValue 172).run Tryz.prog w = .ok (.agg bR.toArray) w) ∧ (Tryz.prog.info? 172).map (·.size) = some 227 := zero_of_info (by kernel_rfl)
theorem jD : bR.length = 227 := Du (gX _ _) _ _ _
theorem YO {w : World} {b : Nat} (h : aj w b 172 bR) : RingAt w b 0 [] := ⟨by omega, by simp, h⟩
set_option maxHeartbeats 4000000 in
theorem Y3 (L : List aF) (v : Value) (w : World) (hr : aT bE w v L) (hL : L.length ≤ 60) :
  Calls Tryz.prog 140 #[v, .func (.func 141) #[] #[]] w fun x w' => x = .returned (.bool (lQ L)) ∧ Below w.heap.size w w' := by
 obtain ⟨ad, cap, rfl, h1, h2⟩ := hr.form
 have HR := hide hr
 clear hr
 obtain ⟨A, hA⟩ : ∃ A, lQ L = A := ⟨_, rfl⟩
 rw [hA]
 have HA := hide hA
 clear hA
 go_enter Tryz.func140, Tryz.ntmps140
 go_wp2_with fail
 go_loopw [5] (fun i wr => ∃ (k : Nat), i = .int .i64 (k + 1 : Nat) ∧ k ≤ 60 ∧ Hid (∀ j (hj : j + 1 < L.length), j < k → (L[j]'(by omega)).id < L[j + 1].id) ∧ Hid (Below w.heap.size w wr)) (fun i _ => L.length + 1 - (intOf i).toNat)
 case atStart => exact ⟨0, rfl, by omega, fun j _ hj => absurd hj (Nat.not_lt_zero _), Below.refl _ _⟩
 case round =>
  obtain ⟨k, rfl, hk, HN, HB⟩ := hrel
  by_cases hlt : k + 1 < L.length
  ·obtain ⟨b, o, cs, rfl, hbw, rfl, hc⟩ := (HR.out.new HB.out).at k (by omega)
   obtain ⟨b', o', cs', gB, _, rfl, hc'⟩ := (HR.out.new HB.out).at (k + 1) hlt
   simp only [Option.some.injEq, Addr.mk.injEq] at gB
   obtain ⟨rfl, rfl, -⟩ := gB
   have c0 : wr.cell? ⟨b, o + k * 2, none⟩ = some (.int .i64 L[k].id) := hc 0 _ rfl
   have c1 : wr.cell? ⟨b, o + k * 2 + 1, none⟩ = some (.int .i64 L[k].state) := hc 1 _ rfl
   have c2 : wr.cell? ⟨b, o + (k + 1) * 2, none⟩ = some (.int .i64 L[k + 1].id) := hc' 0 _ rfl
   have c3 : wr.cell? ⟨b, o + (k + 1) * 2 + 1, none⟩ = some (.int .i64 L[k + 1].state) := hc' 1 _ rfl
   clear hc hc'
   obtain ⟨e, he⟩ : ∃ e, L[k] = e := ⟨_, rfl⟩
   obtain ⟨f, hf⟩ : ∃ f, L[k + 1] = f := ⟨_, rfl⟩
   rw [he] at c0 c1
   rw [hf] at c2 c3
   have q0 : ∀ y : Later wr, y.w.cell? ⟨b, o + k * 2, none⟩ = some (.int .i64 e.id) := fun y => (y.b.cell (p := ⟨b, o + k * 2, none⟩) hbw).trans c0
   have q1 : ∀ y : Later wr, y.w.cell? ⟨b, o + k * 2 + 1, none⟩ = some (.int .i64 e.state) := fun y => (y.b.cell (p := ⟨b, o + k * 2 + 1, none⟩) hbw).trans c1
   have q2 : ∀ y : Later wr, y.w.cell? ⟨b, o + (k + 1) * 2, none⟩ = some (.int .i64 f.id) := fun y => (y.b.cell (p := ⟨b, o + (k + 1) * 2, none⟩) hbw).trans c2
   have q3 : ∀ y : Later wr, y.w.cell? ⟨b, o + (k + 1) * 2 + 1, none⟩ = some (.int .i64 f.state) := fun y => (y.b.cell (p := ⟨b, o + (k + 1) * 2 + 1, none⟩) hbw).trans c3
   have hbl := fun w => Yn e f w
   clear c0 c1 c2 c3
   cases hq : decide (e.id < f.id)
   ·have HF : Hid (A = false) := by
     show A = false
     rw [← HA.out]
     cases hz : lQ L
     ·rfl
     ·have := (Dl L).1 hz k hlt
      rw [he, hf] at this
      exact absurd this (of_decide_eq_false hq)
    rw [hq] at hbl
    clear hq he hf
    go_upto_region 4 with fail
    have hne : Nonempty (Later wr) := ⟨⟨wr, Below.refl _ _⟩⟩; refine eH (by kernel_rfl) (by kernel_rfl) ?_
    repeat (go_big_quiet_step (fail))
    go_big_quiet_want; go_big_quiet_op; refine ⟨.bool false, fun y => gW (x := y) (hbl y.w), ?_⟩; go_big_quiet_on
    repeat (go_big_quiet_step (fail))
    refine wpQuiet_nil ?_; intro _ hw'; obtain ⟨y, hw''⟩ := hw'; subst hw''; have hby := y.b
    go_wp2_with fail
    go_ret
    exact ⟨by rw [HF.out]; rfl, ah HB.out hby⟩
   ·have qL : Hid (∀ j (hj : j + 1 < L.length), j < k + 1 → (L[j]'(by omega)).id < L[j + 1].id) := fun j hj hjk => by
     by_cases ej : j = k
     ·subst ej; rw [he, hf]; exact of_decide_eq_true hq
     ·exact HN.out j hj (by omega)
    rw [hq] at hbl
    clear hq he hf
    go_upto_region 4 with fail
    have hne : Nonempty (Later wr) := ⟨⟨wr, Below.refl _ _⟩⟩; refine eH (by kernel_rfl) (by kernel_rfl) ?_
    repeat (go_big_quiet_step (fail))
    go_big_quiet_want; go_big_quiet_op; refine ⟨.bool true, fun y => gW (x := y) (hbl y.w), ?_⟩; go_big_quiet_on
    repeat (go_big_quiet_step (fail))
    refine wpQuiet_nil ?_; intro _ hw'; obtain ⟨y, hw''⟩ := hw'; subst hw''; have hby := y.b
    have HB2 := hide (ah HB.out hby)
    go_wp2_with fail
    go_roundw
    case rel => exact ⟨k + 1, by go_num, by omega, qL, HB2⟩
    case measure => simp [intOf]; omega
  ·have HF : Hid (A = true) := by
    show A = true
    rw [← HA.out]
    exact (Dl L).2 fun i hi => HN.out i hi (by omega)
   have hge : ¬ ((k + 1 : Nat) : Int) < (L.length : Int) := by omega
   go_wp2_with fail
   go_ret
   exact ⟨by rw [HF.out]; rfl, HB.out⟩
theorem Y4 (e : aF) (id : Int) (g : Nat) (w : World) (hg : w.cell? ⟨g, 0, none⟩ = some (.int .i64 id)) (hl : g < w.heap.size) : Calls Tryz.prog 133 #[.agg #[.int .i64 e.id, .int .i64 e.state], .pointer (some ⟨g, 0, none⟩)] w fun x w' => x = .returned (.bool (decide (e.id = id))) ∧ Below w.heap.size w w' := by
 go_enter Tryz.func133, Tryz.ntmps133
 go_wp2_with fail
 go_ret
 exact ⟨rfl, (by repeat' (first | (with_reducible exact Below.refl _ _) | (with_reducible refine Below.drew ?_) | (with_reducible refine ay _ ?_) | (with_reducible refine aA ?_ _) | (refine ah ?_ (by with_reducible assumption)) | (with_reducible refine Below.setCell ?_ ?_ _) | go_size))⟩
set_option maxHeartbeats 4000000 in
theorem Y5 (L : List aF) (id : Int) (v : Value) (g : Nat) (w : World) (hr : aT bE w v L) (hg : w.cell? ⟨g, 0, none⟩ = some (.int .i64 id)) (hl : g < w.heap.size) (hL : L.length ≤ 60) :
  Calls Tryz.prog 132 #[v, .func (.func 133) #[] #[.pointer (some ⟨g, 0, none⟩)]] w fun x w' => x = .returned (.int .i64 (iF L id)) ∧ Below w.heap.size w w' := by
 obtain ⟨ad, cap, rfl, h1, h2⟩ := hr.form
 have HR := hide hr
 have HG := hide hg
 clear hr hg
 obtain ⟨A, hA⟩ : ∃ A, iF L id = A := ⟨_, rfl⟩
 rw [hA]
 have HA := hide hA
 clear hA
 go_enter Tryz.func132, Tryz.ntmps132
 go_wp2_with fail
 go_loopw [8] (fun i wr => ∃ (k : Nat), i = .int .i64 k ∧ k ≤ L.length ∧ Hid (∀ j (hj : j < L.length), j < k → L[j].id ≠ id) ∧ Hid (Below w.heap.size w wr)) (fun i _ => L.length - (intOf i).toNat)
 case atStart => exact ⟨0, rfl, Nat.zero_le _, fun j _ hj => absurd hj (Nat.not_lt_zero _), Below.refl _ _⟩
 case round =>
  obtain ⟨k, rfl, hk, HN, HB⟩ := hrel
  by_cases hlt : k < L.length
  ·obtain ⟨b, o, cs, rfl, hbw, rfl, hc⟩ := (HR.out.new HB.out).at k hlt
   have c0 : wr.cell? ⟨b, o + k * 2, none⟩ = some (.int .i64 L[k].id) := hc 0 _ rfl
   have c1 : wr.cell? ⟨b, o + k * 2 + 1, none⟩ = some (.int .i64 L[k].state) := hc 1 _ rfl
   clear hc
   obtain ⟨e, he⟩ : ∃ e, L[k] = e := ⟨_, rfl⟩
   rw [he] at c0 c1
   have HE := hide he
   clear he
   go_wp2_with fail
   refine (Y4 e id g _ ((HB.out.cell (p := ⟨g, 0, none⟩) hl).trans HG.out) (Nat.lt_of_lt_of_le hl HB.out.size)).mono ?_
   rintro z w5 ⟨rfl, hb5⟩
   replace HB := hide (ah HB.out hb5)
   clear hb5 c0 c1
   by_cases h4 : e.id = id
   ·rw [decide_eq_true h4]
    have HF : Hid (A = k) := by show A = k; rw [← HA.out]; exact AJ (Cz k hlt (by rw [HE.out]; exact h4) fun j hj => HN.out j (by omega) hj)
    clear h4
    go_wp2_with fail
    go_ret
    exact ⟨by rw [HF.out]; rfl, HB.out⟩
   ·rw [decide_eq_false h4]
    have qL : Hid (∀ j (hj : j < L.length), j < k + 1 → L[j].id ≠ id) := fun j hj hjk => by
     by_cases e : j = k
     ·subst e; rw [HE.out]; exact h4
     ·exact HN.out j hj (by omega)
    clear h4
    go_wp2_with fail
    go_roundw
    case rel => exact ⟨k + 1, by go_num, by omega, qL, HB⟩
    case measure => simp [intOf]; omega
  ·have HF : Hid (A = -1) := by
    show A = -1
    rw [← HA.out]
    refine Ow fun e he => ?_
    obtain ⟨j, hj, rfl⟩ := List.mem_iff_getElem.1 he
    exact HN.out j hj (by omega)
   go_wp2_with fail
   go_ret
   exact ⟨by rw [HF.out]; rfl, HB.out⟩
theorem IZ (d : bZ) (id : Int) (v : Value) (w : World) (hr : aT bE w v d.es) (hL : d.es.length ≤ 60) : Calls Tryz.prog 103 #[.agg #[.int .i64 d.lim, .int .i64 d.top, v], .int .i64 id] w fun x w' => x = .returned (.int .i64 (iF d.es id)) ∧ Below w.heap.size w w' := by
 obtain ⟨ad, cap, rfl, h1, h2⟩ := hr.form
 have HR := hide hr
 clear hr
 go_enter Tryz.func103, Tryz.ntmps103
 go_wp2_with fail
 refine (Y5 d.es id _ (w.heap.size + 1) _ (HR.out.new (by repeat' (first | (with_reducible exact Below.refl _ _) | (with_reducible refine Below.drew ?_) | (with_reducible refine ay _ ?_) | (with_reducible refine aA ?_ _) | (refine ah ?_ (by with_reducible assumption)) | (with_reducible refine Below.setCell ?_ ?_ _) | go_size))) (by simp) (by simp) hL).mono ?_
 rintro z w1 ⟨rfl, hb1⟩
 go_wp2_with fail
 go_ret
 exact ⟨rfl, (by repeat' (first | (with_reducible exact Below.refl _ _) | (with_reducible refine Below.drew ?_) | (with_reducible refine ay _ ?_) | (with_reducible refine aA ?_ _) | (refine ah ?_ (by with_reducible assumption)) | (with_reducible refine Below.setCell ?_ ?_ _) | go_size))⟩
theorem Y6 (L : List aF) : ((keep [.inl false] L).length : Int) = fu L := by
 have := (Uj L).2
 rw [← this]
 unfold keep
 congr 2
 simp [jo, sJ]
set_option maxHeartbeats 1000000 in
theorem Y7 (d : bZ) (v : Value) (w : World) (hr : aT bE w v d.es) (hL : d.es.length ≤ 60) : Calls Tryz.prog 142 #[.agg #[.int .i64 d.lim, .int .i64 d.top, v]] w fun x w' => x = .returned (.int .i64 (fu d.es)) ∧ Below w.heap.size w w' := by
 obtain ⟨ad, cap, rfl, h1, h2⟩ := hr.form
 have HR := hide hr
 clear hr
 obtain ⟨A, hA⟩ : ∃ A, fu d.es = A := ⟨_, rfl⟩
 have Y8 : Hid (((keep [.inl false] d.es).length : Int) = A) := by rw [← hA]; exact Y6 d.es
 rw [hA]
 clear hA
 go_enter Tryz.func142, Tryz.ntmps142
 go_wp2_with fail
 refine (Io d _ _ (HR.out.new (by repeat' (first | (with_reducible exact Below.refl _ _) | (with_reducible refine Below.drew ?_) | (with_reducible refine ay _ ?_) | (with_reducible refine aA ?_ _) | (refine ah ?_ (by with_reducible assumption)) | (with_reducible refine Below.setCell ?_ ?_ _) | go_size)))).mono ?_; rintro z w1 ⟨rfl, hb1⟩
 have HB := hide (ah (aA (Below.refl _ _) _) hb1)
 clear hb1
 go_wp2_with fail
 have qM : Below w1.heap.size w1 (w1.alloc (.cells #[.func (.func 162) #[] #[]] 147)) := (Below.refl _ _).alloc (Nat.le_refl _) _
 have hF : Reads (w1.alloc (.cells #[.func (.func 162) #[] #[]] 147)) (.slice (some ⟨w1.heap.size, 0, none⟩) 1 1) 1 1 (([.inl false] : List Wn).map uM) := eP (kW w1 147 1 1 #[.func (.func 162) #[] #[]] rfl (by omega))
 replace HB := hide (ah HB.out qM)
 refine (Iq d.es [.inl false] _ (some ⟨w1.heap.size, 0, none⟩) 1 _ (HR.out.new HB.out) hF hL (by decide)).mono ?_
 rintro z w2 ⟨v2, rfl, ho2, hb2⟩
 obtain ⟨a2, p2, rfl, _⟩ := bW ho2
 replace HB := hide (ah HB.out hb2)
 have hkl := Ip [.inl false] d.es
 clear hF qM hb2 ho2
 go_wp2_with fail
 go_ret
 exact ⟨by rw [← Y8.out]; rfl, HB.out⟩
theorem Y9 (L : List aF) : keep [] L = L := by unfold keep; simp
set_option maxHeartbeats 1000000 in
theorem KI (d : bZ) (v : Value) (w : World) (hr : aT bE w v d.es) (hL : d.es.length ≤ 60) : Calls Tryz.prog 94 #[.agg #[.int .i64 d.lim, .int .i64 d.top, v]] w fun x w' => ∃ v', x = .returned (.agg #[.int .i64 d.lim, .int .i64 d.top, v']) ∧ w'.ownsRow w.heap.size 94 2 v' d.es.length (ev d.es) ∧ Below w.heap.size w w' := by
 obtain ⟨ad, cap, rfl, h1, h2⟩ := hr.form
 have HR := hide hr
 clear hr
 have wW := Iq d.es [] (.slice ad d.es.length cap) none 0
 rw [Y9] at wW
 go_enter Tryz.func94, Tryz.ntmps94
 go_wp2_with fail
 obtain ⟨V, hV⟩ : ∃ V, (w.alloc (.cells #[.int .i64 d.lim, .int .i64 d.top, .slice ad d.es.length cap] 34)).alloc (.cells #[.int .i64 0, .int .i64 0, .slice none 0 0] 34) = V := ⟨_, rfl⟩
 have HB : Hid (Below w.heap.size w V) := by show Below _ _ _; rw [← hV]; exact aA ((Below.refl _ _).alloc (Nat.le_refl _) _) _
 have HX : Hid (aj V w.heap.size 34 [.int .i64 d.lim, .int .i64 d.top, .slice ad d.es.length cap]) := by show aj _ _ _ _; rw [← hV]; exact (aB w 34 [.int .i64 d.lim, .int .i64 d.top, .slice ad d.es.length cap]).alloc _
 have HRR : Hid (aj V (w.heap.size + 1) 34 [.int .i64 0, .int .i64 0, .slice none 0 0]) := by show aj _ _ _ _; rw [← hV]; simpa using aB (w.alloc (.cells #[.int .i64 d.lim, .int .i64 d.top, .slice ad d.es.length cap] 34)) 34 [.int .i64 0, .int .i64 0, .slice none 0 0]
 rw [hV]
 clear hV
 refine (Io d _ _ (HR.out.new HB.out)).mono ?_; rintro z w1 ⟨rfl, hb1⟩
 replace HX := hide (HX.out.new hb1)
 replace HRR := hide (HRR.out.new hb1)
 replace HB := hide (ah HB.out hb1)
 have hlr := HRR.out.lt
 clear hb1
 go_wp2_with fail
 refine (wW w1 (HR.out.new HB.out) (eP (World.ownsRow_nil w1 0 147 1)) hL (by decide)).mono ?_
 rintro z w2 ⟨v2, rfl, ho2, hb2⟩
 obtain ⟨a2, p2, rfl, _⟩ := bW ho2
 replace HX := hide (HX.out.new hb2)
 replace HRR := hide (HRR.out.new hb2)
 replace HB := hide (ah HB.out hb2)
 have HO := hide ho2
 have hov : ∀ q, (Value.slice a2 d.es.length p2).ownBlock = some q → w.heap.size + 2 ≤ q := fun q hq => by have := (HO.out.lt q hq).1; omega
 have Bj := hide hov
 clear hb2 ho2 wW hov
 have x0 := HX.out.cell (j := 0) rfl
 have x1 := HX.out.cell (j := 1) rfl
 have x2 := HX.out.cell (j := 2) rfl
 have x5 := HX.out.frozen 2
 have r0 := HRR.out.cell (j := 0) rfl
 have r1 := HRR.out.cell (j := 1) rfl
 have r2 := HRR.out.cell (j := 2) rfl
 have r3 := HRR.out.frozen 0
 have r4 := HRR.out.frozen 1
 have r5 := HRR.out.frozen 2
 have jc := HX.out.lt
 have hlR := HRR.out.lt
 go_wp2_with fail
 refine bodyPost_ret (v := (.agg #[.int .i64 d.lim, .int .i64 d.top, .slice a2 d.es.length p2])) (by simp [results, Tryz.results94, go_sem, *]) rfl ?_
 exact ⟨_, rfl, eG (base := w1.heap.size) (by repeat' (first | (with_reducible exact HO.out) | (with_reducible refine iq _ ?_ Bj.out _ _ ?_) | (with_reducible refine World.ownsRow.alloc ?_ _) | (simp; done) | (simp; omega))) (fun q hq => by have := Bj.out q hq; omega), by repeat' (first | (with_reducible exact HB.out) | (with_reducible refine Below.setCell ?_ ?_ _) | (with_reducible refine Below.alloc ?_ ?_ _) | (with_reducible refine Below.drew ?_) | (with_reducible refine ay _ ?_) | omega | (simp; done) | (simp; omega))⟩
theorem Za (L : List aF) (l t : Int) (a : Option Addr) (n c : Nat) : (keep [.inl true, .inr (l, t, a, n, c)] L).length = L.length ↔ L.all (jw t) = true := by
 unfold keep
 rw [List.length_filter_eq_length_iff, List.all_eq_true]
 refine forall_congr' fun e => forall_congr' fun _ => ?_
 have : (([.inl true, .inr (l, t, a, n, c)] : List Wn).all fun x => jo x e) = jw t e := by
  simp only [List.all_cons, List.all_nil, jo, Bool.and_true, sK, jw, aQ]
  cases fI e.id <;> cases decide (e.id ≤ t) <;> cases decide (1 ≤ e.state ∧ e.state ≤ 4) <;> rfl
 rw [this]
set_option maxHeartbeats 4000000 in
theorem IY (d : bZ) (v : Value) (w : World) (hr : aT bE w v d.es) : Calls Tryz.prog 114 #[.agg #[.int .i64 d.lim, .int .i64 d.top, v]] w fun x w' => x = .returned (.bool (fE d)) ∧ Below w.heap.size w w' := by
 obtain ⟨ad, cap, rfl, h1, h2⟩ := hr.form
 have HR := hide hr
 clear hr
 obtain ⟨A, hA⟩ : ∃ A, fE d = A := ⟨_, rfl⟩
 rw [hA]
 have HA : Hid (A = (aQ d.lim 0 20 && decide (d.top = 0 ∨ fI d.top = true) && decide (d.es.length ≤ 60) && d.es.all (jw d.top) && lQ d.es && decide (fu d.es ≤ d.lim))) := hA.symm
 clear hA
 cases hT : decide (d.top = 0 ∨ fI d.top = true)
 ·have hT' := of_decide_eq_false hT
  have HF : Hid (A = false) := by show A = false; rw [HA.out, hT]; cases aQ d.lim 0 20 <;> rfl
  have ht0 : (d.top == 0) = false := by simpa using fun c => hT' (.inl c)
  have ht1 : fI d.top = false := by cases hq : fI d.top <;> simp_all
  clear hT hT'
  go_enter Tryz.func114, Tryz.ntmps114
  go_wp2_with fail
  refine (Eh d.top _).mono ?_; rw [ht1]; rintro e w1 ⟨rfl, hsame⟩; obtain rfl := hsame.symm; clear hsame
  go_wp2_with fail
  refine (iX _ _ _ _).mono ?_
  cases hlim : aQ d.lim 0 20
  ·rintro e w1 ⟨rfl, hsame⟩; obtain rfl := hsame.symm; clear hsame
   go_wp2_with fail
   go_ret
   exact ⟨by rw [HF.out]; rfl, (by repeat' (first | (with_reducible exact Below.refl _ _) | (with_reducible refine Below.drew ?_) | (with_reducible refine ay _ ?_) | (with_reducible refine aA ?_ _) | (refine ah ?_ (by with_reducible assumption)) | (with_reducible refine Below.setCell ?_ ?_ _) | go_size))⟩
  ·rintro e w1 ⟨rfl, hsame⟩; obtain rfl := hsame.symm; clear hsame
   go_wp2_with fail
   go_ret
   exact ⟨by rw [HF.out]; rfl, (by repeat' (first | (with_reducible exact Below.refl _ _) | (with_reducible refine Below.drew ?_) | (with_reducible refine ay _ ?_) | (with_reducible refine aA ?_ _) | (refine ah ?_ (by with_reducible assumption)) | (with_reducible refine Below.setCell ?_ ?_ _) | go_size))⟩
 have two : (d.top = 0) ∨ ((d.top == 0) = false ∧ fI d.top = true) := by
  by_cases h : d.top = 0
  ·exact .inl h
  ·exact .inr ⟨by simpa using h, (of_decide_eq_true hT).resolve_left h⟩
 have hid := fun w => Eh d.top w
 have hlm := fun w => iX d.lim 0 20 w
 cases hlim : aQ d.lim 0 20
 ·rw [hlim] at hlm
  have HF : Hid (A = false) := by show A = false; rw [HA.out, hlim]; rfl
  clear hT
  rcases two with ht0 | ⟨ht0, ht1⟩
  ·rw [ht0] at *
   go_enter Tryz.func114, Tryz.ntmps114
   go_wp2_with fail
   refine (hlm _).mono ?_; rintro e w1 ⟨rfl, hsame⟩; obtain rfl := hsame.symm; clear hsame
   go_wp2_with fail
   go_ret
   exact ⟨by rw [HF.out]; rfl, (by repeat' (first | (with_reducible exact Below.refl _ _) | (with_reducible refine Below.drew ?_) | (with_reducible refine ay _ ?_) | (with_reducible refine aA ?_ _) | (refine ah ?_ (by with_reducible assumption)) | (with_reducible refine Below.setCell ?_ ?_ _) | go_size))⟩
  ·rw [ht1] at hid
   go_enter Tryz.func114, Tryz.ntmps114
   go_wp2_with fail
   refine (hid _).mono ?_; rintro e w1 ⟨rfl, hsame⟩; obtain rfl := hsame.symm; clear hsame
   go_wp2_with fail
   refine (hlm _).mono ?_; rintro e w1 ⟨rfl, hsame⟩; obtain rfl := hsame.symm; clear hsame
   go_wp2_with fail
   go_ret
   exact ⟨by rw [HF.out]; rfl, (by repeat' (first | (with_reducible exact Below.refl _ _) | (with_reducible refine Below.drew ?_) | (with_reducible refine ay _ ?_) | (with_reducible refine aA ?_ _) | (refine ah ?_ (by with_reducible assumption)) | (with_reducible refine Below.setCell ?_ ?_ _) | go_size))⟩
 rw [hlim] at hlm
 by_cases mG : (60 : Int) < d.es.length
 ·have HF : Hid (A = false) := by show A = false; rw [HA.out, hlim, hT, show decide (d.es.length ≤ 60) = false from decide_eq_false (by omega)]; rfl
  clear hT
  rcases two with ht0 | ⟨ht0, ht1⟩
  ·rw [ht0] at *
   go_enter Tryz.func114, Tryz.ntmps114
   go_wp2_with fail
   refine (hlm _).mono ?_; rintro e w1 ⟨rfl, hsame⟩; obtain rfl := hsame.symm; clear hsame
   go_wp2_with fail
   go_ret
   exact ⟨by rw [HF.out]; rfl, (by repeat' (first | (with_reducible exact Below.refl _ _) | (with_reducible refine Below.drew ?_) | (with_reducible refine ay _ ?_) | (with_reducible refine aA ?_ _) | (refine ah ?_ (by with_reducible assumption)) | (with_reducible refine Below.setCell ?_ ?_ _) | go_size))⟩
  ·rw [ht1] at hid
   go_enter Tryz.func114, Tryz.ntmps114
   go_wp2_with fail
   refine (hid _).mono ?_; rintro e w1 ⟨rfl, hsame⟩; obtain rfl := hsame.symm; clear hsame
   go_wp2_with fail
   refine (hlm _).mono ?_; rintro e w1 ⟨rfl, hsame⟩; obtain rfl := hsame.symm; clear hsame
   go_wp2_with fail
   go_ret
   exact ⟨by rw [HF.out]; rfl, (by repeat' (first | (with_reducible exact Below.refl _ _) | (with_reducible refine Below.drew ?_) | (with_reducible refine ay _ ?_) | (with_reducible refine aA ?_ _) | (refine ah ?_ (by with_reducible assumption)) | (with_reducible refine Below.setCell ?_ ?_ _) | go_size))⟩
 have hL : d.es.length ≤ 60 := by omega
 have HA2 : Hid (A = (d.es.all (jw d.top) && lQ d.es && decide (fu d.es ≤ d.lim))) := by show A = _; rw [HA.out, hlim, hT, show decide (d.es.length ≤ 60) = true from decide_eq_true hL]; simp only [Bool.true_and]
 clear hT HA hlim
 have hls := Io d (.slice ad d.es.length cap)
 have hkp := Za d.es d.lim d.top ad d.es.length cap
 have wW := Iq d.es [.inl true, .inr (d.lim, d.top, ad, d.es.length, cap)] (.slice ad d.es.length cap)
 have hris := Y3 d.es (.slice ad d.es.length cap)
 have hlv := fun w h => Y7 d (.slice ad d.es.length cap) w h hL
 obtain ⟨q, hq⟩ : ∃ q, fu d.es = q := ⟨_, rfl⟩
 rw [hq] at hlv HA2
 clear hq
 obtain ⟨M, hM⟩ : ∃ M, keep [.inl true, .inr (d.lim, d.top, ad, d.es.length, cap)] d.es = M := ⟨_, rfl⟩
 rw [hM] at hkp wW
 have hml : M.length ≤ d.es.length := by rw [← hM]; exact Ip _ _
 have Eo := hide hkp
 clear hM hkp
 rcases two with ht0 | ⟨ht0, ht1⟩
 ·have HT0 := hide ht0
  have ht2 : (d.top == 0) = true := by simpa using ht0
  clear ht0
  go_enter Tryz.func114, Tryz.ntmps114
  go_upto_region 2 with fail
  generalize hV : w.alloc (.cells #[.int .i64 d.lim, .int .i64 d.top, .slice ad d.es.length cap] 34) = V
  have aO : Below w.heap.size w V := by rw [← hV]; exact (Below.refl _ _).alloc (Nat.le_refl _) _
  have HX : Hid (aj V w.heap.size 34 [.int .i64 d.lim, .int .i64 d.top, .slice ad d.es.length cap]) := by show aj _ _ _ _; rw [← hV]; exact aB w 34 [.int .i64 d.lim, .int .i64 d.top, .slice ad d.es.length cap]
  clear hV
  have HB := hide aO
  clear aO
  have x0 := HX.out.cell (j := 0) rfl
  have x1 := HX.out.cell (j := 1) rfl
  have x2 := HX.out.cell (j := 2) rfl
  have jc := HX.out.lt
  go_wp2_with fail
  refine (hlm _).mono ?_; rintro e w1 ⟨rfl, hsame⟩; obtain rfl := hsame.symm; clear hsame
  go_wp2_with fail
  refine (hls _ (HR.out.new HB.out)).mono ?_; rintro z w2 ⟨rfl, hb2⟩
  replace HX := hide (HX.out.new hb2)
  replace HB := hide (ah HB.out hb2)
  clear hb2 x0 x1 x2 jc
  have x0 := HX.out.cell (j := 0) rfl
  have x1 := HX.out.cell (j := 1) rfl
  have x2 := HX.out.cell (j := 2) rfl
  have jc := HX.out.lt
  go_wp2_with fail
  have qM : Below w2.heap.size w2 (w2.alloc (.cells #[.func (.func 138) #[] #[], .func (.func 139) #[.agg #[.int .i64 d.lim, .int .i64 d.top, .slice ad d.es.length cap]] #[]] 147)) := (Below.refl _ _).alloc (Nat.le_refl _) _
  have hF : Reads (w2.alloc (.cells #[.func (.func 138) #[] #[], .func (.func 139) #[.agg #[.int .i64 d.lim, .int .i64 d.top, .slice ad d.es.length cap]] #[]] 147)) (.slice (some ⟨w2.heap.size, 0, none⟩) 2 2) 2 1 (([.inl true, .inr (d.lim, d.top, ad, d.es.length, cap)] : List Wn).map uM) := eP (kW w2 147 1 2 #[.func (.func 138) #[] #[], .func (.func 139) #[.agg #[.int .i64 d.lim, .int .i64 d.top, .slice ad d.es.length cap]] #[]] rfl (by omega))
  replace HX := hide (HX.out.new qM)
  replace HB := hide (ah HB.out qM)
  refine (wW (some ⟨w2.heap.size, 0, none⟩) 2 _ (HR.out.new HB.out) hF hL (by simp)).mono ?_
  rintro z w3 ⟨v3, rfl, ho3, hb3⟩
  obtain ⟨a3, p3, rfl, _⟩ := bW ho3
  replace HX := hide (HX.out.new hb3)
  replace HB := hide (ah HB.out hb3)
  clear hF qM hb3 ho3 x0 x1 x2 jc
  by_cases sS : M.length = d.es.length
  rotate_left
  ·have hne : ((M.length : Int) != d.es.length) = true := by simp; omega
   have HF : Hid (A = false) := by
    show A = false
    rw [HA2.out]
    cases hq : d.es.all (jw d.top)
    ·rfl
    ·exact absurd (Eo.out.2 hq) sS
   clear sS
   go_wp2_with fail
   go_ret
   exact ⟨by rw [HF.out]; rfl, HB.out⟩
  have hne : ((M.length : Int) != d.es.length) = false := by simp; omega
  have wX : Hid (A = (lQ d.es && decide (q ≤ d.lim))) := by show A = _; rw [HA2.out, Eo.out.1 sS]; simp
  clear sS HA2
  go_wp2_with fail
  refine (hris _ (HR.out.new HB.out) hL).mono ?_
  cases hrs : lQ d.es
  ·rintro z w4 ⟨rfl, hb4⟩
   have HF : Hid (A = false) := by show A = false; rw [wX.out, hrs]; rfl
   replace HB := hide (ah HB.out hb4)
   clear hb4
   go_wp2_with fail
   go_ret
   exact ⟨by rw [HF.out]; rfl, HB.out⟩
  rintro z w4 ⟨rfl, hb4⟩
  have HF : Hid (A = decide (q ≤ d.lim)) := by show A = _; rw [wX.out, hrs]; simp
  replace HX := hide (HX.out.new hb4)
  replace HB := hide (ah HB.out hb4)
  clear hb4 hrs wX
  have x0 := HX.out.cell (j := 0) rfl
  have x1 := HX.out.cell (j := 1) rfl
  have x2 := HX.out.cell (j := 2) rfl
  have jc := HX.out.lt
  have q0 : ∀ y : Later w4, y.w.cell? ⟨w.heap.size, 0, none⟩ = some (.int .i64 d.lim) := fun y => (y.b.cell (p := ⟨w.heap.size, 0, none⟩) jc).trans x0
  have q1 : ∀ y : Later w4, y.w.cell? ⟨w.heap.size, 1, none⟩ = some (.int .i64 d.top) := fun y => (y.b.cell (p := ⟨w.heap.size, 1, none⟩) jc).trans x1
  have q2 : ∀ y : Later w4, y.w.cell? ⟨w.heap.size, 2, none⟩ = some (.slice ad d.es.length cap) := fun y => (y.b.cell (p := ⟨w.heap.size, 2, none⟩) jc).trans x2
  clear x0 x1 x2
  have hrd : ∀ y : Later w4, aT bE y.w (.slice ad d.es.length cap) d.es := fun y => (HR.out.new HB.out).new y.b
  go_upto_region 7 with fail
  have hne : Nonempty (Later w4) := ⟨⟨w4, Below.refl _ _⟩⟩; refine eH (by kernel_rfl) (by kernel_rfl) ?_
  repeat (go_big_quiet_step (fail))
  go_big_quiet_want; go_big_quiet_op; refine ⟨.int .i64 q, fun y => gW (x := y) (hlv y.w (hrd y)), ?_⟩; go_big_quiet_on
  repeat (go_big_quiet_step (fail))
  refine wpQuiet_nil ?_; intro _ hw'; obtain ⟨y, hw''⟩ := hw'; subst hw''; have hby := y.b
  go_wp2_with fail
  go_ret
  exact ⟨by rw [HF.out]; rfl, ah HB.out hby⟩
 ·rw [ht1] at hid
  go_enter Tryz.func114, Tryz.ntmps114
  go_wp2_with fail
  refine (hid _).mono ?_; rintro e w1 ⟨rfl, hsame⟩; obtain rfl := hsame.symm; clear hsame
  go_upto_region 2 with fail
  generalize hV : w.alloc (.cells #[.int .i64 d.lim, .int .i64 d.top, .slice ad d.es.length cap] 34) = V
  have aO : Below w.heap.size w V := by rw [← hV]; exact (Below.refl _ _).alloc (Nat.le_refl _) _
  have HX : Hid (aj V w.heap.size 34 [.int .i64 d.lim, .int .i64 d.top, .slice ad d.es.length cap]) := by show aj _ _ _ _; rw [← hV]; exact aB w 34 [.int .i64 d.lim, .int .i64 d.top, .slice ad d.es.length cap]
  clear hV
  have HB := hide aO
  clear aO
  have x0 := HX.out.cell (j := 0) rfl
  have x1 := HX.out.cell (j := 1) rfl
  have x2 := HX.out.cell (j := 2) rfl
  have jc := HX.out.lt
  go_wp2_with fail
  refine (hlm _).mono ?_; rintro e w1 ⟨rfl, hsame⟩; obtain rfl := hsame.symm; clear hsame
  go_wp2_with fail
  refine (hls _ (HR.out.new HB.out)).mono ?_; rintro z w2 ⟨rfl, hb2⟩
  replace HX := hide (HX.out.new hb2)
  replace HB := hide (ah HB.out hb2)
  clear hb2 x0 x1 x2 jc
  have x0 := HX.out.cell (j := 0) rfl
  have x1 := HX.out.cell (j := 1) rfl
  have x2 := HX.out.cell (j := 2) rfl
  have jc := HX.out.lt
  go_wp2_with fail
  have qM : Below w2.heap.size w2 (w2.alloc (.cells #[.func (.func 138) #[] #[], .func (.func 139) #[.agg #[.int .i64 d.lim, .int .i64 d.top, .slice ad d.es.length cap]] #[]] 147)) := (Below.refl _ _).alloc (Nat.le_refl _) _
  have hF : Reads (w2.alloc (.cells #[.func (.func 138) #[] #[], .func (.func 139) #[.agg #[.int .i64 d.lim, .int .i64 d.top, .slice ad d.es.length cap]] #[]] 147)) (.slice (some ⟨w2.heap.size, 0, none⟩) 2 2) 2 1 (([.inl true, .inr (d.lim, d.top, ad, d.es.length, cap)] : List Wn).map uM) := eP (kW w2 147 1 2 #[.func (.func 138) #[] #[], .func (.func 139) #[.agg #[.int .i64 d.lim, .int .i64 d.top, .slice ad d.es.length cap]] #[]] rfl (by omega))
  replace HX := hide (HX.out.new qM)
  replace HB := hide (ah HB.out qM)
  refine (wW (some ⟨w2.heap.size, 0, none⟩) 2 _ (HR.out.new HB.out) hF hL (by simp)).mono ?_
  rintro z w3 ⟨v3, rfl, ho3, hb3⟩
  obtain ⟨a3, p3, rfl, _⟩ := bW ho3
  replace HX := hide (HX.out.new hb3)
  replace HB := hide (ah HB.out hb3)
  clear hF qM hb3 ho3 x0 x1 x2 jc
  by_cases sS : M.length = d.es.length
  rotate_left
  ·have hne : ((M.length : Int) != d.es.length) = true := by simp; omega
   have HF : Hid (A = false) := by
    show A = false
    rw [HA2.out]
    cases hq : d.es.all (jw d.top)
    ·rfl
    ·exact absurd (Eo.out.2 hq) sS
   clear sS
   go_wp2_with fail
   go_ret
   exact ⟨by rw [HF.out]; rfl, HB.out⟩
  have hne : ((M.length : Int) != d.es.length) = false := by simp; omega
  have wX : Hid (A = (lQ d.es && decide (q ≤ d.lim))) := by show A = _; rw [HA2.out, Eo.out.1 sS]; simp
  clear sS HA2
  go_wp2_with fail
  refine (hris _ (HR.out.new HB.out) hL).mono ?_
  cases hrs : lQ d.es
  ·rintro z w4 ⟨rfl, hb4⟩
   have HF : Hid (A = false) := by show A = false; rw [wX.out, hrs]; rfl
   replace HB := hide (ah HB.out hb4)
   clear hb4
   go_wp2_with fail
   go_ret
   exact ⟨by rw [HF.out]; rfl, HB.out⟩
  rintro z w4 ⟨rfl, hb4⟩
  have HF : Hid (A = decide (q ≤ d.lim)) := by show A = _; rw [wX.out, hrs]; simp
  replace HX := hide (HX.out.new hb4)
  replace HB := hide (ah HB.out hb4)
  clear hb4 hrs wX
  have x0 := HX.out.cell (j := 0) rfl
  have x1 := HX.out.cell (j := 1) rfl
  have x2 := HX.out.cell (j := 2) rfl
  have jc := HX.out.lt
  have q0 : ∀ y : Later w4, y.w.cell? ⟨w.heap.size, 0, none⟩ = some (.int .i64 d.lim) := fun y => (y.b.cell (p := ⟨w.heap.size, 0, none⟩) jc).trans x0
  have q1 : ∀ y : Later w4, y.w.cell? ⟨w.heap.size, 1, none⟩ = some (.int .i64 d.top) := fun y => (y.b.cell (p := ⟨w.heap.size, 1, none⟩) jc).trans x1
  have q2 : ∀ y : Later w4, y.w.cell? ⟨w.heap.size, 2, none⟩ = some (.slice ad d.es.length cap) := fun y => (y.b.cell (p := ⟨w.heap.size, 2, none⟩) jc).trans x2
  clear x0 x1 x2
  have hrd : ∀ y : Later w4, aT bE y.w (.slice ad d.es.length cap) d.es := fun y => (HR.out.new HB.out).new y.b
  go_upto_region 7 with fail
  have hne : Nonempty (Later w4) := ⟨⟨w4, Below.refl _ _⟩⟩; refine eH (by kernel_rfl) (by kernel_rfl) ?_
  repeat (go_big_quiet_step (fail))
  go_big_quiet_want; go_big_quiet_op; refine ⟨.int .i64 q, fun y => gW (x := y) (hlv y.w (hrd y)), ?_⟩; go_big_quiet_on
  repeat (go_big_quiet_step (fail))
  refine wpQuiet_nil ?_; intro _ hw'; obtain ⟨y, hw''⟩ := hw'; subst hw''; have hby := y.b
  go_wp2_with fail
  go_ret
  exact ⟨by rw [HF.out]; rfl, ah HB.out hby⟩
end Go.Proofs.YtlpbnkideaojeaaGreatDoor
