/- Several small texts of one level, one behind the other. -/
import Derived.Test.YtfmeinkhdgbgjaaGreatQTkRing4
import Derived.DeepKeys
import Derived.Laws.StructEq
import Derived.Deep.MidRow
import Derived.Test.YtfmeinkhdgbgjaaGreatQTkG10
/- Two rings' slots compared as whole arrays. -/
namespace Go.Proofs.YtfmeinkhdgbgjaaGreat
open Go.RowKit
set_option maxRecDepth 100000
set_option linter.unusedSimpArgs false
set_option linter.unusedVariables false

def lits (f : Fd) : List Lit := [.string f.n.data.toList, .string f.v.data.toList]
theorem lits_inj {f g : Fd} (h : lits f = lits g) : f = g := by
  obtain ⟨⟨⟨a⟩⟩, ⟨⟨b⟩⟩⟩ := f
  obtain ⟨⟨⟨c⟩⟩, ⟨⟨d⟩⟩⟩ := g
  simp only [lits, List.cons.injEq, Lit.string.injEq, and_true] at h
  obtain ⟨h1, h2⟩ := h
  subst h1 h2
  rfl
theorem litsL_inj : ∀ {A B : List Fd}, A.length = B.length → A.flatMap lits = B.flatMap lits → A = B
  | [], [], _, _ => rfl
  | [], _ :: _, h, _ => by simp at h
  | _ :: _, [], h, _ => by simp at h
  | f :: A, g :: B, h, e => by
    simp only [List.flatMap_cons] at e
    have := List.append_inj e rfl
    rw [lits_inj this.1, litsL_inj (by simpa using h) this.2]
theorem mapM_some {α β : Type} (g : α → Option β) (h : α → β) : ∀ l : List α, (∀ i ∈ l, g i = some (h i)) → l.mapM g = some (l.map h)
  | [], _ => by simp
  | a :: l, H => by
    rw [List.mapM_cons, H a (by simp), mapM_some g h l fun i hi => H i (by simp [hi])]
    rfl
theorem fv_chunk (L : List Fd) (i : Nat) (hi : i < L.length) : ((fv L).drop (i * 2)).take 2 = L[i].cs := by
  have h1 : fv L = fv (L.take i) ++ (L[i].cs ++ fv (L.drop (i + 1))) := by
    conv => lhs; rw [← List.take_append_drop i L, List.drop_eq_getElem_cons hi, fv_app]
    simp only [fv, List.flatMap_cons]
  have h2 : (fv (L.take i)).length = i * 2 := by rw [fv_len, List.length_take]; omega
  rw [h1, List.drop_append_of_le_length (by omega), List.drop_of_length_le (by omega), List.nil_append, List.take_append_of_le_length (by simp [Fd.cs])]
  rfl
theorem kl_field (f : Fd) (hf : f.fine) : Tryz.prog.keyLits 2 163 f.cs = some (lits f) := by
  obtain ⟨h1, h2⟩ := hf
  have e1 : Tryz.prog.cellsOf 163 = 2 := by kernel_rfl
  have e2 : Tryz.prog.cellsOf 9 = 1 := by kernel_rfl
  have m1 : f.n.size ≤ maxLen := by unfold maxLen; omega
  have m2 : f.v.size ≤ maxLen := by unfold maxLen; omega
  simp [Program.keyLits, Tryz.underlying163, Tryz.underlying9, e1, e2, Fd.cs, m1, m2, lits]
theorem kl_ring (sl : List Fd) (hs : sl.length = 112) (hf : ∀ f ∈ sl, f.fine) : Tryz.prog.keyLits 3 227 (fv sl) = some (sl.flatMap lits) := by
  have e1 : Tryz.prog.cellsOf 163 = 2 := by kernel_rfl
  have e2 : Tryz.prog.cellsOf 227 = 224 := by kernel_rfl
  have hl : (fv sl).length = 224 := by rw [fv_len, hs]
  unfold Program.keyLits
  simp only [Tryz.underlying227, e2, hl, if_true, e1]
  rw [mapM_some _ (fun i => lits (sl.getD i zF)) _ (fun i hi => by
    have hi' : i < sl.length := by rw [hs]; simpa using hi
    rw [fv_chunk sl i hi', kl_field _ (hf _ (List.getElem_mem hi'))]
    simp [hi'])]
  have : (List.range 112).map (fun i => sl.getD i zF) = sl := by
    refine List.ext_getElem (by simp [hs]) fun i h1 h2 => ?_
    simp [h2]
  conv => rhs; rw [← this]
  simp [List.flatMap_def, Function.comp_def]

theorem eqRings (sl sl' : List Fd) (hs : sl.length = 112) (hs' : sl'.length = 112) (hf : ∀ f ∈ sl, f.fine) (hf' : ∀ f ∈ sl', f.fine) (c : Bool) (hc : c = true ↔ sl = sl') (w : World) :
    (binOp .eql 227 (.agg (fv sl).toArray) (.agg (fv sl').toArray)).run Tryz.prog w = .ok (.bool c) w := by
  have fm : ∀ L : List Fd, L.length = 112 → (Value.agg (fv L).toArray).formed Tryz.prog 227 = true := fun L hL => by
    have e2 : Tryz.prog.cellsOf 227 = 224 := by kernel_rfl
    simp [Value.formed, Tryz.underlying227, e2, fv_len, hL]
  obtain ⟨r, hr, hiff⟩ := run_equalIn_deep (P := Tryz.prog) 9997 3 227 (by kernel_rfl) w 3 3 (.agg (fv sl).toArray) (.agg (fv sl').toArray) (sl.flatMap lits) (sl'.flatMap lits) (fm sl hs) (fm sl' hs') (by simpa [Value.cells] using kl_ring sl hs hf) (by simpa [Value.cells] using kl_ring sl' hs' hf')
  have hrc : r = c := by
    have h1 : (sl.flatMap lits = sl'.flatMap lits) ↔ sl = sl' := ⟨litsL_inj (by omega), fun e => by rw [e]⟩
    rw [h1, ← hc] at hiff
    cases r <;> cases c <;> simp_all
  rw [run_eql_struct, hr, hrc]
  rfl

section
variable {P : Program}
theorem yieldsIf_load_row {ops : Array Oper} {S : World → Prop} {op : Oper} {a : Act} (hw : Region.wanted op (yielded ops a.tmps) = true) (ty : TypeId) (x : Operand) (ho : op.op = .load ty x)
    (b : Nat) (hx : a.eval x = .pointer (some ⟨b, 0, none⟩)) (cs : List Value) (d : TypeDesc) (t : TypeId) (hS : ∀ w, S w → RowIs w b t cs)
    (hu : P.underlying ty = some d) (hd : (match d with | .struct _ | .array _ _ => true | _ => false) = true) (hi : (P.info? ty).map (·.size) = some cs.length) : YieldsIf P ops S op (.agg cs.toArray) a :=
  .inl ⟨hw, fun w hw' => by
    unfold execOp
    simp only [ho, hx, Instr.loadAt, Instr.sureAddr, Sem.run_bind, Sem.run_pure, Result.andThen_ok, run_loadVar_row w b t ty cs.toArray (0, 0) d (hS w hw') hu hd (by simpa using hi)]⟩
end
theorem rowIs_range {w : World} {b : Nat} {t : TypeId} {xs ys : List Value} (h : RowIs w b t (xs ++ ys)) : w.rangeAt b 0 xs := fun j v hv => by
  rw [Nat.zero_add]
  exact h.cell (by rw [List.getElem?_append_left (List.getElem?_eq_some_iff.1 hv).1]; exact hv)
/-- The zero ring. -/
def ringZ : List Value := rC (ringS 0 []) 0 0 0
theorem ringZ_zero : (∀ w, (zeroValue 229).run Tryz.prog w = .ok (.agg ringZ.toArray) w) ∧ (Tryz.prog.info? 229).map (·.size) = some 227 := zero_of_info (by kernel_rfl)
theorem ringZ_len : ringZ.length = 227 := rC_len (ringS_len _ _) _ _ _
theorem ringZ_at {w : World} {b : Nat} (h : RowIs w b 229 ringZ) : RingAt w b 0 [] := ⟨by omega, by simp, h⟩
end Go.Proofs.YtfmeinkhdgbgjaaGreat
/- The program's registry: whether entries rise, where one is, how many live, whether it is full, whether it is right, a copy. -/
namespace Go.Proofs.YtfmeinkhdgbgjaaGreat
open Go.RowKit
set_option maxRecDepth 100000
set_option linter.unusedSimpArgs false
set_option linter.unusedVariables false
set_option maxHeartbeats 4000000 in
theorem implRises (L : List EntryD) (v : Value) (w : World) (hr : RdR entryS w v L) (hL : L.length ≤ 60) :
    Calls Tryz.prog 132 #[v, .func (.func 133) #[] #[]] w fun x w' => x = .returned (.bool (risB L)) ∧ Below w.heap.size w w' := by
  obtain ⟨ad, cap, rfl, h1, h2⟩ := hr.form
  have HR := hide hr
  clear hr
  obtain ⟨A, hA⟩ : ∃ A, risB L = A := ⟨_, rfl⟩
  rw [hA]
  have HA := hide hA
  clear hA
  go_enter Tryz.func132, Tryz.ntmps132
  go_wp2_with fail
  go_loopw [5] (fun i wr => ∃ (k : Nat), i = .int .i64 (k + 1 : Nat) ∧ k ≤ 60 ∧ Hid (∀ j (hj : j + 1 < L.length), j < k → (L[j]'(by omega)).id < L[j + 1].id) ∧ Hid (Below w.heap.size w wr)) (fun i _ => L.length + 1 - (intOf i).toNat)
  case atStart => exact ⟨0, rfl, by omega, fun j _ hj => absurd hj (Nat.not_lt_zero _), Below.refl _ _⟩
  case round =>
    obtain ⟨k, rfl, hk, HN, HB⟩ := hrel
    by_cases hlt : k + 1 < L.length
    · obtain ⟨b, o, cs, rfl, hbw, rfl, hc⟩ := (HR.out.new HB.out).at k (by omega)
      obtain ⟨b', o', cs', hbo, _, rfl, hc'⟩ := (HR.out.new HB.out).at (k + 1) hlt
      simp only [Option.some.injEq, Addr.mk.injEq] at hbo
      obtain ⟨rfl, rfl, -⟩ := hbo
      have c0 : wr.cell? ⟨b, o + k * 2, none⟩ = some (.int .i64 L[k].id) := hc 0 _ rfl
      have c1 : wr.cell? ⟨b, o + k * 2 + 1, none⟩ = some (.int .i64 L[k].state) := hc 1 _ rfl
      have c2 : wr.cell? ⟨b, o + (k + 1) * 2, none⟩ = some (.int .i64 L[k + 1].id) := hc' 0 _ rfl
      have c3 : wr.cell? ⟨b, o + (k + 1) * 2 + 1, none⟩ = some (.int .i64 L[k + 1].state) := hc' 1 _ rfl
      clear hc hc'
      obtain ⟨e, he⟩ : ∃ e, L[k] = e := ⟨_, rfl⟩
      obtain ⟨f, hf⟩ : ∃ f, L[k + 1] = f := ⟨_, rfl⟩
      rw [he] at c0 c1
      rw [hf] at c2 c3
      have q0 : ∀ y : Later wr, y.w.cell? ⟨b, o + k * 2, none⟩ = some (.int .i64 e.id) := fun y => (y.b.cell (p := ⟨b, o + k * 2, none⟩) hbw).trans c0
      have q1 : ∀ y : Later wr, y.w.cell? ⟨b, o + k * 2 + 1, none⟩ = some (.int .i64 e.state) := fun y => (y.b.cell (p := ⟨b, o + k * 2 + 1, none⟩) hbw).trans c1
      have q2 : ∀ y : Later wr, y.w.cell? ⟨b, o + (k + 1) * 2, none⟩ = some (.int .i64 f.id) := fun y => (y.b.cell (p := ⟨b, o + (k + 1) * 2, none⟩) hbw).trans c2
      have q3 : ∀ y : Later wr, y.w.cell? ⟨b, o + (k + 1) * 2 + 1, none⟩ = some (.int .i64 f.state) := fun y => (y.b.cell (p := ⟨b, o + (k + 1) * 2 + 1, none⟩) hbw).trans c3
      have hbl := fun w => implBelow e f w
      clear c0 c1 c2 c3
      cases hq : decide (e.id < f.id)
      · have HF : Hid (A = false) := by
          show A = false
          rw [← HA.out]
          cases hz : risB L
          · rfl
          · have := (risB_iff L).1 hz k hlt
            rw [he, hf] at this
            exact absurd this (of_decide_eq_false hq)
        rw [hq] at hbl
        clear hq he hf
        go_upto_region 4 with fail
        have hne : Nonempty (Later wr) := ⟨⟨wr, Below.refl _ _⟩⟩; refine region_later (by kernel_rfl) (by kernel_rfl) ?_
        repeat (go_big_quiet_step (fail))
        go_big_quiet_want; go_big_quiet_op; refine ⟨.bool false, fun y => later_calls (x := y) (hbl y.w), ?_⟩; go_big_quiet_on
        repeat (go_big_quiet_step (fail))
        refine wpQuiet_nil ?_; intro _ hw'; obtain ⟨y, hw''⟩ := hw'; subst hw''; have hby := y.b
        go_wp2_with fail
        go_ret
        exact ⟨by rw [HF.out]; rfl, bchain HB.out hby⟩
      · have HN2 : Hid (∀ j (hj : j + 1 < L.length), j < k + 1 → (L[j]'(by omega)).id < L[j + 1].id) := fun j hj hjk => by
          by_cases ej : j = k
          · subst ej; rw [he, hf]; exact of_decide_eq_true hq
          · exact HN.out j hj (by omega)
        rw [hq] at hbl
        clear hq he hf
        go_upto_region 4 with fail
        have hne : Nonempty (Later wr) := ⟨⟨wr, Below.refl _ _⟩⟩; refine region_later (by kernel_rfl) (by kernel_rfl) ?_
        repeat (go_big_quiet_step (fail))
        go_big_quiet_want; go_big_quiet_op; refine ⟨.bool true, fun y => later_calls (x := y) (hbl y.w), ?_⟩; go_big_quiet_on
        repeat (go_big_quiet_step (fail))
        refine wpQuiet_nil ?_; intro _ hw'; obtain ⟨y, hw''⟩ := hw'; subst hw''; have hby := y.b
        have HB2 := hide (bchain HB.out hby)
        go_wp2_with fail
        go_roundw
        case rel => exact ⟨k + 1, by go_num, by omega, HN2, HB2⟩
        case measure => simp [intOf]; omega
    · have HF : Hid (A = true) := by
        show A = true
        rw [← HA.out]
        exact (risB_iff L).2 fun i hi => HN.out i hi (by omega)
      have hge : ¬ ((k + 1 : Nat) : Int) < (L.length : Int) := by omega
      go_wp2_with fail
      go_ret
      exact ⟨by rw [HF.out]; rfl, HB.out⟩
theorem implIs (e : EntryD) (id : Int) (g : Nat) (w : World) (hg : w.cell? ⟨g, 0, none⟩ = some (.int .i64 id)) (hl : g < w.heap.size) : Calls Tryz.prog 147 #[.agg #[.int .i64 e.id, .int .i64 e.state], .pointer (some ⟨g, 0, none⟩)] w fun x w' => x = .returned (.bool (decide (e.id = id))) ∧ Below w.heap.size w w' := by
  go_enter Tryz.func147, Tryz.ntmps147
  go_wp2_with fail
  go_ret
  exact ⟨rfl, (by repeat' (first | (with_reducible exact Below.refl _ _) | (with_reducible refine Below.drew ?_) | (with_reducible refine bo_drewN _ ?_) | (with_reducible refine bo_alloc ?_ _) | (refine bchain ?_ (by with_reducible assumption)) | (with_reducible refine Below.setCell ?_ ?_ _) | go_size))⟩
set_option maxHeartbeats 4000000 in
theorem implIndex (L : List EntryD) (id : Int) (v : Value) (g : Nat) (w : World) (hr : RdR entryS w v L) (hg : w.cell? ⟨g, 0, none⟩ = some (.int .i64 id)) (hl : g < w.heap.size) (hL : L.length ≤ 60) :
    Calls Tryz.prog 146 #[v, .func (.func 147) #[] #[.pointer (some ⟨g, 0, none⟩)]] w fun x w' => x = .returned (.int .i64 (atI L id)) ∧ Below w.heap.size w w' := by
  obtain ⟨ad, cap, rfl, h1, h2⟩ := hr.form
  have HR := hide hr
  have HG := hide hg
  clear hr hg
  obtain ⟨A, hA⟩ : ∃ A, atI L id = A := ⟨_, rfl⟩
  rw [hA]
  have HA := hide hA
  clear hA
  go_enter Tryz.func146, Tryz.ntmps146
  go_wp2_with fail
  go_loopw [8] (fun i wr => ∃ (k : Nat), i = .int .i64 k ∧ k ≤ L.length ∧ Hid (∀ j (hj : j < L.length), j < k → L[j].id ≠ id) ∧ Hid (Below w.heap.size w wr)) (fun i _ => L.length - (intOf i).toNat)
  case atStart => exact ⟨0, rfl, Nat.zero_le _, fun j _ hj => absurd hj (Nat.not_lt_zero _), Below.refl _ _⟩
  case round =>
    obtain ⟨k, rfl, hk, HN, HB⟩ := hrel
    by_cases hlt : k < L.length
    · obtain ⟨b, o, cs, rfl, hbw, rfl, hc⟩ := (HR.out.new HB.out).at k hlt
      have c0 : wr.cell? ⟨b, o + k * 2, none⟩ = some (.int .i64 L[k].id) := hc 0 _ rfl
      have c1 : wr.cell? ⟨b, o + k * 2 + 1, none⟩ = some (.int .i64 L[k].state) := hc 1 _ rfl
      clear hc
      obtain ⟨e, he⟩ : ∃ e, L[k] = e := ⟨_, rfl⟩
      rw [he] at c0 c1
      have HE := hide he
      clear he
      go_wp2_with fail
      refine (implIs e id g _ ((HB.out.cell (p := ⟨g, 0, none⟩) hl).trans HG.out) (Nat.lt_of_lt_of_le hl HB.out.size)).mono ?_
      rintro z w5 ⟨rfl, hb5⟩
      replace HB := hide (bchain HB.out hb5)
      clear hb5 c0 c1
      by_cases h4 : e.id = id
      · rw [decide_eq_true h4]
        have HF : Hid (A = k) := by show A = k; rw [← HA.out]; exact atI_some (atE_of k hlt (by rw [HE.out]; exact h4) fun j hj => HN.out j (by omega) hj)
        clear h4
        go_wp2_with fail
        go_ret
        exact ⟨by rw [HF.out]; rfl, HB.out⟩
      · rw [decide_eq_false h4]
        have HN2 : Hid (∀ j (hj : j < L.length), j < k + 1 → L[j].id ≠ id) := fun j hj hjk => by
          by_cases e : j = k
          · subst e; rw [HE.out]; exact h4
          · exact HN.out j hj (by omega)
        clear h4
        go_wp2_with fail
        go_roundw
        case rel => exact ⟨k + 1, by go_num, by omega, HN2, HB⟩
        case measure => simp [intOf]; omega
    · have HF : Hid (A = -1) := by
        show A = -1
        rw [← HA.out]
        refine atI_none fun e he => ?_
        obtain ⟨j, hj, rfl⟩ := List.mem_iff_getElem.1 he
        exact HN.out j hj (by omega)
      go_wp2_with fail
      go_ret
      exact ⟨by rw [HF.out]; rfl, HB.out⟩
theorem implPlace (d : RegistryD) (id : Int) (v : Value) (w : World) (hr : RdR entryS w v d.es) (hL : d.es.length ≤ 60) : Calls Tryz.prog 65 #[.agg #[.int .i64 d.lim, .int .i64 d.top, v], .int .i64 id] w fun x w' => x = .returned (.int .i64 (atI d.es id)) ∧ Below w.heap.size w w' := by
  obtain ⟨ad, cap, rfl, h1, h2⟩ := hr.form
  have HR := hide hr
  clear hr
  go_enter Tryz.func65, Tryz.ntmps65
  go_wp2_with fail
  refine (implIndex d.es id _ (w.heap.size + 1) _ (HR.out.new (by repeat' (first | (with_reducible exact Below.refl _ _) | (with_reducible refine Below.drew ?_) | (with_reducible refine bo_drewN _ ?_) | (with_reducible refine bo_alloc ?_ _) | (refine bchain ?_ (by with_reducible assumption)) | (with_reducible refine Below.setCell ?_ ?_ _) | go_size))) (by simp) (by simp) hL).mono ?_
  rintro z w1 ⟨rfl, hb1⟩
  go_wp2_with fail
  go_ret
  exact ⟨rfl, (by repeat' (first | (with_reducible exact Below.refl _ _) | (with_reducible refine Below.drew ?_) | (with_reducible refine bo_drewN _ ?_) | (with_reducible refine bo_alloc ?_ _) | (refine bchain ?_ (by with_reducible assumption)) | (with_reducible refine Below.setCell ?_ ?_ _) | go_size))⟩
theorem keep_live (L : List EntryD) : ((keep [.inl false] L).length : Int) = liveL L := by
  have := (live_filter L).2
  rw [← this]
  unfold keep
  congr 2
  simp [wnP, liB]
set_option maxHeartbeats 1000000 in
theorem implLiveL (d : RegistryD) (v : Value) (w : World) (hr : RdR entryS w v d.es) (hL : d.es.length ≤ 60) : Calls Tryz.prog 60 #[.agg #[.int .i64 d.lim, .int .i64 d.top, v]] w fun x w' => x = .returned (.int .i64 (liveL d.es)) ∧ Below w.heap.size w w' := by
  obtain ⟨ad, cap, rfl, h1, h2⟩ := hr.form
  have HR := hide hr
  clear hr
  obtain ⟨A, hA⟩ : ∃ A, liveL d.es = A := ⟨_, rfl⟩
  have HKL : Hid (((keep [.inl false] d.es).length : Int) = A) := by rw [← hA]; exact keep_live d.es
  rw [hA]
  clear hA
  go_enter Tryz.func60, Tryz.ntmps60
  go_wp2_with fail
  refine (implList d _ _ (HR.out.new (by repeat' (first | (with_reducible exact Below.refl _ _) | (with_reducible refine Below.drew ?_) | (with_reducible refine bo_drewN _ ?_) | (with_reducible refine bo_alloc ?_ _) | (refine bchain ?_ (by with_reducible assumption)) | (with_reducible refine Below.setCell ?_ ?_ _) | go_size)))).mono ?_; rintro z w1 ⟨rfl, hb1⟩
  have HB := hide (bchain (bo_alloc (Below.refl _ _) _) hb1)
  clear hb1
  go_wp2_with fail
  have hbF : Below w1.heap.size w1 (w1.alloc (.cells #[.func (.func 134) #[] #[]] 154)) := (Below.refl _ _).alloc (Nat.le_refl _) _
  have hF : Reads (w1.alloc (.cells #[.func (.func 134) #[] #[]] 154)) (.slice (some ⟨w1.heap.size, 0, none⟩) 1 1) 1 1 (([.inl false] : List Wn).map wnV) := reads_of_owns (owns_lit w1 154 1 1 #[.func (.func 134) #[] #[]] rfl (by omega))
  replace HB := hide (bchain HB.out hbF)
  refine (implOnly d.es [.inl false] _ (some ⟨w1.heap.size, 0, none⟩) 1 _ (HR.out.new HB.out) hF hL (by decide)).mono ?_
  rintro z w2 ⟨v2, rfl, ho2, hb2⟩
  obtain ⟨a2, p2, rfl, _⟩ := owns_form ho2
  replace HB := hide (bchain HB.out hb2)
  have hkl := keep_len [.inl false] d.es
  clear hF hbF hb2 ho2
  go_wp2_with fail
  go_ret
  exact ⟨by rw [← HKL.out]; rfl, HB.out⟩
theorem keep_none (L : List EntryD) : keep [] L = L := by unfold keep; simp
set_option maxHeartbeats 1000000 in
theorem implApart (d : RegistryD) (v : Value) (w : World) (hr : RdR entryS w v d.es) (hL : d.es.length ≤ 60) : Calls Tryz.prog 181 #[.agg #[.int .i64 d.lim, .int .i64 d.top, v]] w fun x w' => ∃ v', x = .returned (.agg #[.int .i64 d.lim, .int .i64 d.top, v']) ∧ w'.ownsRow w.heap.size 101 2 v' d.es.length (ev d.es) ∧ Below w.heap.size w w' := by
  obtain ⟨ad, cap, rfl, h1, h2⟩ := hr.form
  have HR := hide hr
  clear hr
  have honly := implOnly d.es [] (.slice ad d.es.length cap) none 0
  rw [keep_none] at honly
  go_enter Tryz.func181, Tryz.ntmps181
  go_wp2_with fail
  obtain ⟨V, hV⟩ : ∃ V, (w.alloc (.cells #[.int .i64 d.lim, .int .i64 d.top, .slice ad d.es.length cap] 26)).alloc (.cells #[.int .i64 0, .int .i64 0, .slice none 0 0] 26) = V := ⟨_, rfl⟩
  have HB : Hid (Below w.heap.size w V) := by show Below _ _ _; rw [← hV]; exact bo_alloc ((Below.refl _ _).alloc (Nat.le_refl _) _) _
  have HX : Hid (RowIs V w.heap.size 26 [.int .i64 d.lim, .int .i64 d.top, .slice ad d.es.length cap]) := by show RowIs _ _ _ _; rw [← hV]; exact (rowIs_new w 26 [.int .i64 d.lim, .int .i64 d.top, .slice ad d.es.length cap]).alloc _
  have HRR : Hid (RowIs V (w.heap.size + 1) 26 [.int .i64 0, .int .i64 0, .slice none 0 0]) := by show RowIs _ _ _ _; rw [← hV]; simpa using rowIs_new (w.alloc (.cells #[.int .i64 d.lim, .int .i64 d.top, .slice ad d.es.length cap] 26)) 26 [.int .i64 0, .int .i64 0, .slice none 0 0]
  rw [hV]
  clear hV
  refine (implList d _ _ (HR.out.new HB.out)).mono ?_; rintro z w1 ⟨rfl, hb1⟩
  replace HX := hide (HX.out.new hb1)
  replace HRR := hide (HRR.out.new hb1)
  replace HB := hide (bchain HB.out hb1)
  have hlr := HRR.out.lt
  clear hb1
  go_wp2_with fail
  refine (honly w1 (HR.out.new HB.out) (reads_of_owns (World.ownsRow_nil w1 0 154 1)) hL (by decide)).mono ?_
  rintro z w2 ⟨v2, rfl, ho2, hb2⟩
  obtain ⟨a2, p2, rfl, _⟩ := owns_form ho2
  replace HX := hide (HX.out.new hb2)
  replace HRR := hide (HRR.out.new hb2)
  replace HB := hide (bchain HB.out hb2)
  have HO := hide ho2
  have hov : ∀ q, (Value.slice a2 d.es.length p2).ownBlock = some q → w.heap.size + 2 ≤ q := fun q hq => by have := (HO.out.lt q hq).1; omega
  have HOV := hide hov
  clear hb2 ho2 honly hov
  have x0 := HX.out.cell (j := 0) rfl
  have x1 := HX.out.cell (j := 1) rfl
  have x2 := HX.out.cell (j := 2) rfl
  have x5 := HX.out.frozen 2
  have r0 := HRR.out.cell (j := 0) rfl
  have r1 := HRR.out.cell (j := 1) rfl
  have r2 := HRR.out.cell (j := 2) rfl
  have r3 := HRR.out.frozen 0
  have r4 := HRR.out.frozen 1
  have r5 := HRR.out.frozen 2
  have hlX := HX.out.lt
  have hlR := HRR.out.lt
  go_wp2_with fail
  refine bodyPost_ret (v := (.agg #[.int .i64 d.lim, .int .i64 d.top, .slice a2 d.es.length p2])) (by simp [results, Tryz.results181, go_sem, *]) rfl ?_
  exact ⟨_, rfl, owns_base (base := w1.heap.size) (by repeat' (first | (with_reducible exact HO.out) | (with_reducible refine owns_far _ ?_ HOV.out _ _ ?_) | (with_reducible refine World.ownsRow.alloc ?_ _) | (simp; done) | (simp; omega))) (fun q hq => by have := HOV.out q hq; omega), by repeat' (first | (with_reducible exact HB.out) | (with_reducible refine Below.setCell ?_ ?_ _) | (with_reducible refine Below.alloc ?_ ?_ _) | (with_reducible refine Below.drew ?_) | (with_reducible refine bo_drewN _ ?_) | omega | (simp; done) | (simp; omega))⟩
theorem keep_all (L : List EntryD) (l t : Int) (a : Option Addr) (n c : Nat) : (keep [.inl true, .inr (l, t, a, n, c)] L).length = L.length ↔ L.all (entOk t) = true := by
  unfold keep
  rw [List.length_filter_eq_length_iff, List.all_eq_true]
  refine forall_congr' fun e => forall_congr' fun _ => ?_
  have : (([.inl true, .inr (l, t, a, n, c)] : List Wn).all fun x => wnP x e) = entOk t e := by
    simp only [List.all_cons, List.all_nil, wnP, Bool.and_true, rtB, entOk, inB]
    cases idB e.id <;> cases decide (e.id ≤ t) <;> cases decide (1 ≤ e.state ∧ e.state ≤ 4) <;> rfl
  rw [this]
set_option maxHeartbeats 4000000 in
theorem implRightR (d : RegistryD) (v : Value) (w : World) (hr : RdR entryS w v d.es) : Calls Tryz.prog 59 #[.agg #[.int .i64 d.lim, .int .i64 d.top, v]] w fun x w' => x = .returned (.bool (okRg d)) ∧ Below w.heap.size w w' := by
  obtain ⟨ad, cap, rfl, h1, h2⟩ := hr.form
  have HR := hide hr
  clear hr
  obtain ⟨A, hA⟩ : ∃ A, okRg d = A := ⟨_, rfl⟩
  rw [hA]
  have HA : Hid (A = (inB d.lim 0 20 && decide (d.top = 0 ∨ idB d.top = true) && decide (d.es.length ≤ 60) && d.es.all (entOk d.top) && risB d.es && decide (liveL d.es ≤ d.lim))) := hA.symm
  clear hA
  cases hT : decide (d.top = 0 ∨ idB d.top = true)
  · have hT' := of_decide_eq_false hT
    have HF : Hid (A = false) := by show A = false; rw [HA.out, hT]; cases inB d.lim 0 20 <;> rfl
    have ht0 : (d.top == 0) = false := by simpa using fun c => hT' (.inl c)
    have ht1 : idB d.top = false := by cases hq : idB d.top <;> simp_all
    clear hT hT'
    go_enter Tryz.func59, Tryz.ntmps59
    go_wp2_with fail
    refine (implId d.top _).mono ?_; rw [ht1]; rintro e w1 ⟨rfl, hsame⟩; obtain rfl := hsame.symm; clear hsame
    go_wp2_with fail
    refine (implWithin _ _ _ _).mono ?_
    cases hlim : inB d.lim 0 20
    · rintro e w1 ⟨rfl, hsame⟩; obtain rfl := hsame.symm; clear hsame
      go_wp2_with fail
      go_ret
      exact ⟨by rw [HF.out]; rfl, (by repeat' (first | (with_reducible exact Below.refl _ _) | (with_reducible refine Below.drew ?_) | (with_reducible refine bo_drewN _ ?_) | (with_reducible refine bo_alloc ?_ _) | (refine bchain ?_ (by with_reducible assumption)) | (with_reducible refine Below.setCell ?_ ?_ _) | go_size))⟩
    · rintro e w1 ⟨rfl, hsame⟩; obtain rfl := hsame.symm; clear hsame
      go_wp2_with fail
      go_ret
      exact ⟨by rw [HF.out]; rfl, (by repeat' (first | (with_reducible exact Below.refl _ _) | (with_reducible refine Below.drew ?_) | (with_reducible refine bo_drewN _ ?_) | (with_reducible refine bo_alloc ?_ _) | (refine bchain ?_ (by with_reducible assumption)) | (with_reducible refine Below.setCell ?_ ?_ _) | go_size))⟩
  have two : (d.top = 0) ∨ ((d.top == 0) = false ∧ idB d.top = true) := by
    by_cases h : d.top = 0
    · exact .inl h
    · exact .inr ⟨by simpa using h, (of_decide_eq_true hT).resolve_left h⟩
  have hid := fun w => implId d.top w
  have hlm := fun w => implWithin d.lim 0 20 w
  cases hlim : inB d.lim 0 20
  · rw [hlim] at hlm
    have HF : Hid (A = false) := by show A = false; rw [HA.out, hlim]; rfl
    clear hT
    rcases two with ht0 | ⟨ht0, ht1⟩
    · rw [ht0] at *
      go_enter Tryz.func59, Tryz.ntmps59
      go_wp2_with fail
      refine (hlm _).mono ?_; rintro e w1 ⟨rfl, hsame⟩; obtain rfl := hsame.symm; clear hsame
      go_wp2_with fail
      go_ret
      exact ⟨by rw [HF.out]; rfl, (by repeat' (first | (with_reducible exact Below.refl _ _) | (with_reducible refine Below.drew ?_) | (with_reducible refine bo_drewN _ ?_) | (with_reducible refine bo_alloc ?_ _) | (refine bchain ?_ (by with_reducible assumption)) | (with_reducible refine Below.setCell ?_ ?_ _) | go_size))⟩
    · rw [ht1] at hid
      go_enter Tryz.func59, Tryz.ntmps59
      go_wp2_with fail
      refine (hid _).mono ?_; rintro e w1 ⟨rfl, hsame⟩; obtain rfl := hsame.symm; clear hsame
      go_wp2_with fail
      refine (hlm _).mono ?_; rintro e w1 ⟨rfl, hsame⟩; obtain rfl := hsame.symm; clear hsame
      go_wp2_with fail
      go_ret
      exact ⟨by rw [HF.out]; rfl, (by repeat' (first | (with_reducible exact Below.refl _ _) | (with_reducible refine Below.drew ?_) | (with_reducible refine bo_drewN _ ?_) | (with_reducible refine bo_alloc ?_ _) | (refine bchain ?_ (by with_reducible assumption)) | (with_reducible refine Below.setCell ?_ ?_ _) | go_size))⟩
  rw [hlim] at hlm
  by_cases h60 : (60 : Int) < d.es.length
  · have HF : Hid (A = false) := by show A = false; rw [HA.out, hlim, hT, show decide (d.es.length ≤ 60) = false from decide_eq_false (by omega)]; rfl
    clear hT
    rcases two with ht0 | ⟨ht0, ht1⟩
    · rw [ht0] at *
      go_enter Tryz.func59, Tryz.ntmps59
      go_wp2_with fail
      refine (hlm _).mono ?_; rintro e w1 ⟨rfl, hsame⟩; obtain rfl := hsame.symm; clear hsame
      go_wp2_with fail
      go_ret
      exact ⟨by rw [HF.out]; rfl, (by repeat' (first | (with_reducible exact Below.refl _ _) | (with_reducible refine Below.drew ?_) | (with_reducible refine bo_drewN _ ?_) | (with_reducible refine bo_alloc ?_ _) | (refine bchain ?_ (by with_reducible assumption)) | (with_reducible refine Below.setCell ?_ ?_ _) | go_size))⟩
    · rw [ht1] at hid
      go_enter Tryz.func59, Tryz.ntmps59
      go_wp2_with fail
      refine (hid _).mono ?_; rintro e w1 ⟨rfl, hsame⟩; obtain rfl := hsame.symm; clear hsame
      go_wp2_with fail
      refine (hlm _).mono ?_; rintro e w1 ⟨rfl, hsame⟩; obtain rfl := hsame.symm; clear hsame
      go_wp2_with fail
      go_ret
      exact ⟨by rw [HF.out]; rfl, (by repeat' (first | (with_reducible exact Below.refl _ _) | (with_reducible refine Below.drew ?_) | (with_reducible refine bo_drewN _ ?_) | (with_reducible refine bo_alloc ?_ _) | (refine bchain ?_ (by with_reducible assumption)) | (with_reducible refine Below.setCell ?_ ?_ _) | go_size))⟩
  have hL : d.es.length ≤ 60 := by omega
  have HA2 : Hid (A = (d.es.all (entOk d.top) && risB d.es && decide (liveL d.es ≤ d.lim))) := by show A = _; rw [HA.out, hlim, hT, show decide (d.es.length ≤ 60) = true from decide_eq_true hL]; simp only [Bool.true_and]
  clear hT HA hlim
  have hls := implList d (.slice ad d.es.length cap)
  have hkp := keep_all d.es d.lim d.top ad d.es.length cap
  have honly := implOnly d.es [.inl true, .inr (d.lim, d.top, ad, d.es.length, cap)] (.slice ad d.es.length cap)
  have hris := implRises d.es (.slice ad d.es.length cap)
  have hlv := fun w h => implLiveL d (.slice ad d.es.length cap) w h hL
  obtain ⟨q, hq⟩ : ∃ q, liveL d.es = q := ⟨_, rfl⟩
  rw [hq] at hlv HA2
  clear hq
  obtain ⟨M, hM⟩ : ∃ M, keep [.inl true, .inr (d.lim, d.top, ad, d.es.length, cap)] d.es = M := ⟨_, rfl⟩
  rw [hM] at hkp honly
  have hml : M.length ≤ d.es.length := by rw [← hM]; exact keep_len _ _
  have HKP := hide hkp
  clear hM hkp
  rcases two with ht0 | ⟨ht0, ht1⟩
  · have HT0 := hide ht0
    have ht2 : (d.top == 0) = true := by simpa using ht0
    clear ht0
    go_enter Tryz.func59, Tryz.ntmps59
    go_upto_region 2 with fail
    generalize hV : w.alloc (.cells #[.int .i64 d.lim, .int .i64 d.top, .slice ad d.es.length cap] 26) = V
    have hbV : Below w.heap.size w V := by rw [← hV]; exact (Below.refl _ _).alloc (Nat.le_refl _) _
    have HX : Hid (RowIs V w.heap.size 26 [.int .i64 d.lim, .int .i64 d.top, .slice ad d.es.length cap]) := by show RowIs _ _ _ _; rw [← hV]; exact rowIs_new w 26 [.int .i64 d.lim, .int .i64 d.top, .slice ad d.es.length cap]
    clear hV
    have HB := hide hbV
    clear hbV
    have x0 := HX.out.cell (j := 0) rfl
    have x1 := HX.out.cell (j := 1) rfl
    have x2 := HX.out.cell (j := 2) rfl
    have hlX := HX.out.lt
    go_wp2_with fail
    refine (hlm _).mono ?_; rintro e w1 ⟨rfl, hsame⟩; obtain rfl := hsame.symm; clear hsame
    go_wp2_with fail
    refine (hls _ (HR.out.new HB.out)).mono ?_; rintro z w2 ⟨rfl, hb2⟩
    replace HX := hide (HX.out.new hb2)
    replace HB := hide (bchain HB.out hb2)
    clear hb2 x0 x1 x2 hlX
    have x0 := HX.out.cell (j := 0) rfl
    have x1 := HX.out.cell (j := 1) rfl
    have x2 := HX.out.cell (j := 2) rfl
    have hlX := HX.out.lt
    go_wp2_with fail
    have hbF : Below w2.heap.size w2 (w2.alloc (.cells #[.func (.func 130) #[] #[], .func (.func 131) #[.agg #[.int .i64 d.lim, .int .i64 d.top, .slice ad d.es.length cap]] #[]] 154)) := (Below.refl _ _).alloc (Nat.le_refl _) _
    have hF : Reads (w2.alloc (.cells #[.func (.func 130) #[] #[], .func (.func 131) #[.agg #[.int .i64 d.lim, .int .i64 d.top, .slice ad d.es.length cap]] #[]] 154)) (.slice (some ⟨w2.heap.size, 0, none⟩) 2 2) 2 1 (([.inl true, .inr (d.lim, d.top, ad, d.es.length, cap)] : List Wn).map wnV) := reads_of_owns (owns_lit w2 154 1 2 #[.func (.func 130) #[] #[], .func (.func 131) #[.agg #[.int .i64 d.lim, .int .i64 d.top, .slice ad d.es.length cap]] #[]] rfl (by omega))
    replace HX := hide (HX.out.new hbF)
    replace HB := hide (bchain HB.out hbF)
    refine (honly (some ⟨w2.heap.size, 0, none⟩) 2 _ (HR.out.new HB.out) hF hL (by simp)).mono ?_
    rintro z w3 ⟨v3, rfl, ho3, hb3⟩
    obtain ⟨a3, p3, rfl, _⟩ := owns_form ho3
    replace HX := hide (HX.out.new hb3)
    replace HB := hide (bchain HB.out hb3)
    clear hF hbF hb3 ho3 x0 x1 x2 hlX
    by_cases hml2 : M.length = d.es.length
    rotate_left
    · have hne : ((M.length : Int) != d.es.length) = true := by simp; omega
      have HF : Hid (A = false) := by
        show A = false
        rw [HA2.out]
        cases hq : d.es.all (entOk d.top)
        · rfl
        · exact absurd (HKP.out.2 hq) hml2
      clear hml2
      go_wp2_with fail
      go_ret
      exact ⟨by rw [HF.out]; rfl, HB.out⟩
    have hne : ((M.length : Int) != d.es.length) = false := by simp; omega
    have HA3 : Hid (A = (risB d.es && decide (q ≤ d.lim))) := by show A = _; rw [HA2.out, HKP.out.1 hml2]; simp
    clear hml2 HA2
    go_wp2_with fail
    refine (hris _ (HR.out.new HB.out) hL).mono ?_
    cases hrs : risB d.es
    · rintro z w4 ⟨rfl, hb4⟩
      have HF : Hid (A = false) := by show A = false; rw [HA3.out, hrs]; rfl
      replace HB := hide (bchain HB.out hb4)
      clear hb4
      go_wp2_with fail
      go_ret
      exact ⟨by rw [HF.out]; rfl, HB.out⟩
    rintro z w4 ⟨rfl, hb4⟩
    have HF : Hid (A = decide (q ≤ d.lim)) := by show A = _; rw [HA3.out, hrs]; simp
    replace HX := hide (HX.out.new hb4)
    replace HB := hide (bchain HB.out hb4)
    clear hb4 hrs HA3
    have x0 := HX.out.cell (j := 0) rfl
    have x1 := HX.out.cell (j := 1) rfl
    have x2 := HX.out.cell (j := 2) rfl
    have hlX := HX.out.lt
    have q0 : ∀ y : Later w4, y.w.cell? ⟨w.heap.size, 0, none⟩ = some (.int .i64 d.lim) := fun y => (y.b.cell (p := ⟨w.heap.size, 0, none⟩) hlX).trans x0
    have q1 : ∀ y : Later w4, y.w.cell? ⟨w.heap.size, 1, none⟩ = some (.int .i64 d.top) := fun y => (y.b.cell (p := ⟨w.heap.size, 1, none⟩) hlX).trans x1
    have q2 : ∀ y : Later w4, y.w.cell? ⟨w.heap.size, 2, none⟩ = some (.slice ad d.es.length cap) := fun y => (y.b.cell (p := ⟨w.heap.size, 2, none⟩) hlX).trans x2
    clear x0 x1 x2
    have hrd : ∀ y : Later w4, RdR entryS y.w (.slice ad d.es.length cap) d.es := fun y => (HR.out.new HB.out).new y.b
    go_upto_region 7 with fail
    have hne : Nonempty (Later w4) := ⟨⟨w4, Below.refl _ _⟩⟩; refine region_later (by kernel_rfl) (by kernel_rfl) ?_
    repeat (go_big_quiet_step (fail))
    go_big_quiet_want; go_big_quiet_op; refine ⟨.int .i64 q, fun y => later_calls (x := y) (hlv y.w (hrd y)), ?_⟩; go_big_quiet_on
    repeat (go_big_quiet_step (fail))
    refine wpQuiet_nil ?_; intro _ hw'; obtain ⟨y, hw''⟩ := hw'; subst hw''; have hby := y.b
    go_wp2_with fail
    go_ret
    exact ⟨by rw [HF.out]; rfl, bchain HB.out hby⟩
  · rw [ht1] at hid
    go_enter Tryz.func59, Tryz.ntmps59
    go_wp2_with fail
    refine (hid _).mono ?_; rintro e w1 ⟨rfl, hsame⟩; obtain rfl := hsame.symm; clear hsame
    go_upto_region 2 with fail
    generalize hV : w.alloc (.cells #[.int .i64 d.lim, .int .i64 d.top, .slice ad d.es.length cap] 26) = V
    have hbV : Below w.heap.size w V := by rw [← hV]; exact (Below.refl _ _).alloc (Nat.le_refl _) _
    have HX : Hid (RowIs V w.heap.size 26 [.int .i64 d.lim, .int .i64 d.top, .slice ad d.es.length cap]) := by show RowIs _ _ _ _; rw [← hV]; exact rowIs_new w 26 [.int .i64 d.lim, .int .i64 d.top, .slice ad d.es.length cap]
    clear hV
    have HB := hide hbV
    clear hbV
    have x0 := HX.out.cell (j := 0) rfl
    have x1 := HX.out.cell (j := 1) rfl
    have x2 := HX.out.cell (j := 2) rfl
    have hlX := HX.out.lt
    go_wp2_with fail
    refine (hlm _).mono ?_; rintro e w1 ⟨rfl, hsame⟩; obtain rfl := hsame.symm; clear hsame
    go_wp2_with fail
    refine (hls _ (HR.out.new HB.out)).mono ?_; rintro z w2 ⟨rfl, hb2⟩
    replace HX := hide (HX.out.new hb2)
    replace HB := hide (bchain HB.out hb2)
    clear hb2 x0 x1 x2 hlX
    have x0 := HX.out.cell (j := 0) rfl
    have x1 := HX.out.cell (j := 1) rfl
    have x2 := HX.out.cell (j := 2) rfl
    have hlX := HX.out.lt
    go_wp2_with fail
    have hbF : Below w2.heap.size w2 (w2.alloc (.cells #[.func (.func 130) #[] #[], .func (.func 131) #[.agg #[.int .i64 d.lim, .int .i64 d.top, .slice ad d.es.length cap]] #[]] 154)) := (Below.refl _ _).alloc (Nat.le_refl _) _
    have hF : Reads (w2.alloc (.cells #[.func (.func 130) #[] #[], .func (.func 131) #[.agg #[.int .i64 d.lim, .int .i64 d.top, .slice ad d.es.length cap]] #[]] 154)) (.slice (some ⟨w2.heap.size, 0, none⟩) 2 2) 2 1 (([.inl true, .inr (d.lim, d.top, ad, d.es.length, cap)] : List Wn).map wnV) := reads_of_owns (owns_lit w2 154 1 2 #[.func (.func 130) #[] #[], .func (.func 131) #[.agg #[.int .i64 d.lim, .int .i64 d.top, .slice ad d.es.length cap]] #[]] rfl (by omega))
    replace HX := hide (HX.out.new hbF)
    replace HB := hide (bchain HB.out hbF)
    refine (honly (some ⟨w2.heap.size, 0, none⟩) 2 _ (HR.out.new HB.out) hF hL (by simp)).mono ?_
    rintro z w3 ⟨v3, rfl, ho3, hb3⟩
    obtain ⟨a3, p3, rfl, _⟩ := owns_form ho3
    replace HX := hide (HX.out.new hb3)
    replace HB := hide (bchain HB.out hb3)
    clear hF hbF hb3 ho3 x0 x1 x2 hlX
    by_cases hml2 : M.length = d.es.length
    rotate_left
    · have hne : ((M.length : Int) != d.es.length) = true := by simp; omega
      have HF : Hid (A = false) := by
        show A = false
        rw [HA2.out]
        cases hq : d.es.all (entOk d.top)
        · rfl
        · exact absurd (HKP.out.2 hq) hml2
      clear hml2
      go_wp2_with fail
      go_ret
      exact ⟨by rw [HF.out]; rfl, HB.out⟩
    have hne : ((M.length : Int) != d.es.length) = false := by simp; omega
    have HA3 : Hid (A = (risB d.es && decide (q ≤ d.lim))) := by show A = _; rw [HA2.out, HKP.out.1 hml2]; simp
    clear hml2 HA2
    go_wp2_with fail
    refine (hris _ (HR.out.new HB.out) hL).mono ?_
    cases hrs : risB d.es
    · rintro z w4 ⟨rfl, hb4⟩
      have HF : Hid (A = false) := by show A = false; rw [HA3.out, hrs]; rfl
      replace HB := hide (bchain HB.out hb4)
      clear hb4
      go_wp2_with fail
      go_ret
      exact ⟨by rw [HF.out]; rfl, HB.out⟩
    rintro z w4 ⟨rfl, hb4⟩
    have HF : Hid (A = decide (q ≤ d.lim)) := by show A = _; rw [HA3.out, hrs]; simp
    replace HX := hide (HX.out.new hb4)
    replace HB := hide (bchain HB.out hb4)
    clear hb4 hrs HA3
    have x0 := HX.out.cell (j := 0) rfl
    have x1 := HX.out.cell (j := 1) rfl
    have x2 := HX.out.cell (j := 2) rfl
    have hlX := HX.out.lt
    have q0 : ∀ y : Later w4, y.w.cell? ⟨w.heap.size, 0, none⟩ = some (.int .i64 d.lim) := fun y => (y.b.cell (p := ⟨w.heap.size, 0, none⟩) hlX).trans x0
    have q1 : ∀ y : Later w4, y.w.cell? ⟨w.heap.size, 1, none⟩ = some (.int .i64 d.top) := fun y => (y.b.cell (p := ⟨w.heap.size, 1, none⟩) hlX).trans x1
    have q2 : ∀ y : Later w4, y.w.cell? ⟨w.heap.size, 2, none⟩ = some (.slice ad d.es.length cap) := fun y => (y.b.cell (p := ⟨w.heap.size, 2, none⟩) hlX).trans x2
    clear x0 x1 x2
    have hrd : ∀ y : Later w4, RdR entryS y.w (.slice ad d.es.length cap) d.es := fun y => (HR.out.new HB.out).new y.b
    go_upto_region 7 with fail
    have hne : Nonempty (Later w4) := ⟨⟨w4, Below.refl _ _⟩⟩; refine region_later (by kernel_rfl) (by kernel_rfl) ?_
    repeat (go_big_quiet_step (fail))
    go_big_quiet_want; go_big_quiet_op; refine ⟨.int .i64 q, fun y => later_calls (x := y) (hlv y.w (hrd y)), ?_⟩; go_big_quiet_on
    repeat (go_big_quiet_step (fail))
    refine wpQuiet_nil ?_; intro _ hw'; obtain ⟨y, hw''⟩ := hw'; subst hw''; have hby := y.b
    go_wp2_with fail
    go_ret
    exact ⟨by rw [HF.out]; rfl, bchain HB.out hby⟩
end Go.Proofs.YtfmeinkhdgbgjaaGreat
