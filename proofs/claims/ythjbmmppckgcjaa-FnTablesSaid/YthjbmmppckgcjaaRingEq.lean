/- Two rings' slots compared as whole arrays. -/
import Derived.Test.YthjbmmppckgcjaaRing4
import Derived.DeepKeys
import Derived.Laws.StructEq
import Derived.Deep.MidRow

namespace Go.Proofs.Ythjbmmppckgcjaa
open Go.RowKit
set_option linter.unusedSimpArgs false
set_option linter.unusedVariables false

def lits (f : Fd) : List Lit := [.string f.n.data.toList, .string f.v.data.toList]
theorem lits_inj {f g : Fd} (h : lits f = lits g) : f = g := by
  obtain ⟨⟨⟨a⟩⟩, ⟨⟨b⟩⟩⟩ := f
  obtain ⟨⟨⟨c⟩⟩, ⟨⟨d⟩⟩⟩ := g
  simp only [lits, List.cons.injEq, Lit.string.injEq, and_true] at h
  obtain ⟨h1, h2⟩ := h
  subst h1 h2
  rfl
theorem litsL_inj : ∀ {A B : List Fd}, A.length = B.length → A.flatMap lits = B.flatMap lits → A = B
  | [], [], _, _ => rfl
  | [], _ :: _, h, _ => by simp at h
  | _ :: _, [], h, _ => by simp at h
  | f :: A, g :: B, h, e => by
    simp only [List.flatMap_cons] at e
    have := List.append_inj e rfl
    rw [lits_inj this.1, litsL_inj (by simpa using h) this.2]
theorem mapM_some {α β : Type} (g : α → Option β) (h : α → β) : ∀ l : List α, (∀ i ∈ l, g i = some (h i)) → l.mapM g = some (l.map h)
  | [], _ => by simp
  | a :: l, H => by
    rw [List.mapM_cons, H a (by simp), mapM_some g h l fun i hi => H i (by simp [hi])]
    rfl
theorem fv_chunk (L : List Fd) (i : Nat) (hi : i < L.length) : ((fv L).drop (i * 2)).take 2 = L[i].cs := by
  have h1 : fv L = fv (L.take i) ++ (L[i].cs ++ fv (L.drop (i + 1))) := by
    conv => lhs; rw [← List.take_append_drop i L, List.drop_eq_getElem_cons hi, fv_app]
    simp only [fv, List.flatMap_cons]
  have h2 : (fv (L.take i)).length = i * 2 := by rw [fv_len, List.length_take]; omega
  rw [h1, List.drop_append_of_le_length (by omega), List.drop_of_length_le (by omega), List.nil_append, List.take_append_of_le_length (by simp [Fd.cs])]
  rfl
theorem kl_field (f : Fd) (hf : f.fine) : Try.prog.keyLits 2 28 f.cs = some (lits f) := by
  obtain ⟨h1, h2⟩ := hf
  have e1 : Try.prog.cellsOf 28 = 2 := by kernel_rfl
  have e2 : Try.prog.cellsOf 9 = 1 := by kernel_rfl
  have m1 : f.n.size ≤ maxLen := by unfold maxLen; omega
  have m2 : f.v.size ≤ maxLen := by unfold maxLen; omega
  simp [Program.keyLits, Try.underlying28, Try.underlying9, e1, e2, Fd.cs, m1, m2, lits]
theorem kl_ring (sl : List Fd) (hs : sl.length = 112) (hf : ∀ f ∈ sl, f.fine) : Try.prog.keyLits 3 61 (fv sl) = some (sl.flatMap lits) := by
  have e1 : Try.prog.cellsOf 28 = 2 := by kernel_rfl
  have e2 : Try.prog.cellsOf 61 = 224 := by kernel_rfl
  have hl : (fv sl).length = 224 := by rw [fv_len, hs]
  unfold Program.keyLits
  simp only [Try.underlying61, e2, hl, if_true, e1]
  rw [mapM_some _ (fun i => lits (sl.getD i zF)) _ (fun i hi => by
    have hi' : i < sl.length := by rw [hs]; simpa using hi
    rw [fv_chunk sl i hi', kl_field _ (hf _ (List.getElem_mem hi'))]
    simp [hi'])]
  have : (List.range 112).map (fun i => sl.getD i zF) = sl := by
    refine List.ext_getElem (by simp [hs]) fun i h1 h2 => ?_
    simp [h2]
  conv => rhs; rw [← this]
  simp [List.flatMap_def, Function.comp_def]

theorem eqRings (sl sl' : List Fd) (hs : sl.length = 112) (hs' : sl'.length = 112) (hf : ∀ f ∈ sl, f.fine) (hf' : ∀ f ∈ sl', f.fine) (c : Bool) (hc : c = true ↔ sl = sl') (w : World) :
    (binOp .eql 61 (.agg (fv sl).toArray) (.agg (fv sl').toArray)).run Try.prog w = .ok (.bool c) w := by
  have fm : ∀ L : List Fd, L.length = 112 → (Value.agg (fv L).toArray).formed Try.prog 61 = true := fun L hL => by
    have e2 : Try.prog.cellsOf 61 = 224 := by kernel_rfl
    simp [Value.formed, Try.underlying61, e2, fv_len, hL]
  obtain ⟨r, hr, hiff⟩ := run_equalIn_deep (P := Try.prog) 9997 3 61 (by kernel_rfl) w 3 3 (.agg (fv sl).toArray) (.agg (fv sl').toArray) (sl.flatMap lits) (sl'.flatMap lits) (fm sl hs) (fm sl' hs') (by simpa [Value.cells] using kl_ring sl hs hf) (by simpa [Value.cells] using kl_ring sl' hs' hf')
  have hrc : r = c := by
    have h1 : (sl.flatMap lits = sl'.flatMap lits) ↔ sl = sl' := ⟨litsL_inj (by omega), fun e => by rw [e]⟩
    rw [h1, ← hc] at hiff
    cases r <;> cases c <;> simp_all
  rw [run_eql_struct, hr, hrc]
  rfl

section
variable {P : Program}
theorem yieldsIf_load_row {ops : Array Oper} {S : World → Prop} {op : Oper} {a : Act} (hw : Region.wanted op (yielded ops a.tmps) = true) (ty : TypeId) (x : Operand) (ho : op.op = .load ty x)
    (b : Nat) (hx : a.eval x = .pointer (some ⟨b, 0, none⟩)) (cs : List Value) (d : TypeDesc) (t : TypeId) (hS : ∀ w, S w → RowIs w b t cs)
    (hu : P.underlying ty = some d) (hd : (match d with | .struct _ | .array _ _ => true | _ => false) = true) (hi : (P.info? ty).map (·.size) = some cs.length) : YieldsIf P ops S op (.agg cs.toArray) a :=
  .inl ⟨hw, fun w hw' => by
    unfold execOp
    simp only [ho, hx, Instr.loadAt, Instr.sureAddr, Sem.run_bind, Sem.run_pure, Result.andThen_ok, run_loadVar_row w b t ty cs.toArray (0, 0) d (hS w hw') hu hd (by simpa using hi)]⟩
end
theorem rowIs_range {w : World} {b : Nat} {t : TypeId} {xs ys : List Value} (h : RowIs w b t (xs ++ ys)) : w.rangeAt b 0 xs := fun j v hv => by
  rw [Nat.zero_add]
  exact h.cell (by rw [List.getElem?_append_left (List.getElem?_eq_some_iff.1 hv).1]; exact hv)
/-- The zero ring. -/
def ringZ : List Value := rC (ringS 0 []) 0 0 0
theorem ringZ_zero : (∀ w, (zeroValue 63).run Try.prog w = .ok (.agg ringZ.toArray) w) ∧ (Try.prog.info? 63).map (·.size) = some 227 := zero_of_info (by kernel_rfl)
theorem ringZ_len : ringZ.length = 227 := rC_len (ringS_len _ _) _ _ _
theorem ringZ_at {w : World} {b : Nat} (h : RowIs w b 63 ringZ) : RingAt w b 0 [] := ⟨by omega, by simp, h⟩
end Go.Proofs.Ythjbmmppckgcjaa
