/- append onto a slice that has no room (wherever it lies): a row of its own. -/
import Derived.Test.YtbikmedbmnfdbaaGreatDoorAppRows
namespace Go.Proofs.YtbikmedbmnfdbaaGreatDoor
open Go.RowKit
set_option maxRecDepth 100000
set_option linter.unusedSimpArgs false
set_option linter.unusedVariables false
theorem reads_add {w : World} {b o m cap size : Nat} {news : List Value} (h : Reads w (.slice (some ⟨b, o, none⟩) m cap) m size news) (h0 : 0 < m) : ∀ j x, news[j]? = some x → w.cell? ((⟨b, o, none⟩ : Addr).add j) = some x := by
  obtain ⟨hl, ad, cap', he, _, _, h4⟩ := h
  obtain ⟨b', o', e1, _, hc⟩ := h4 h0
  simp only [Value.slice.injEq] at he
  obtain ⟨he1, _, _⟩ := he
  rw [← he1] at e1
  simp only [Option.some.injEq, Addr.mk.injEq] at e1
  obtain ⟨rfl, rfl, _⟩ := e1
  intro j x hj
  have ha : (⟨b, o, none⟩ : Addr).add j = ⟨b, o + j, none⟩ := by unfold Addr.add; split <;> simp_all
  rw [ha]; exact hc j x hj
theorem run_app_full (w : World) (t ty e : TypeId) (z : Value) (size bytes : Nat) (ht : Tryz.prog.underlying t = some (.slice e)) (hinf : ((Tryz.prog.info? e).map fun i => (i.zero, i.size, i.bytes)) = some (some z, size, bytes)) (hzs : z.cells.size = size)
    (b o n cap : Nat) (xs : List Value) (hr0 : Reads w (.slice (some ⟨b, o, none⟩) n cap) n size xs) (hn0 : 0 < n) (b2 o2 m cap2 : Nat) (news : List Value) (hr : Reads w (.slice (some ⟨b2, o2, none⟩) m cap2) m size news) (hm0 : 0 < m) (hfull : cap < n + m)
    (hnm : n + m ≤ 2097152) (hby : bytes ≤ 1000) :
    ∃ ad' cap' w', (Builtin.append_ #[t, t] ty #[.slice (some ⟨b, o, none⟩) n cap, .slice (some ⟨b2, o2, none⟩) m cap2]).run Tryz.prog w = .ok (.slice ad' (n + m) cap') w' ∧ w'.ownsRow w.heap.size e size (.slice ad' (n + m) cap') (n + m) (xs ++ news) ∧ Below w.heap.size w w' := by
  obtain ⟨i, hi, hz, hs, hb⟩ := info_parts (P := Tryz.prog) (e := e) (z := z) (size := size) (bytes := bytes) hinf
  have hbytes : (n + m) * bytes ≤ 140737488355328 := by
    have := Nat.mul_le_mul hnm hby
    omega
  subst hs
  subst hb
  have hlx := hr0.1
  have hln := hr.1
  have hg := run_append_grow (P := Tryz.prog) w t ty e i z ht hi hz ⟨b, o, none⟩ n cap xs hlx (reads_add hr0 hn0) ⟨b2, o2, none⟩ m cap2 news hln (reads_add hr hm0) hfull (by omega) (growslice_fits hfull hbytes)
  have hge := grownCap_ge w (n + m) cap e
  have hcm : grownCap w (n + m) cap e ≤ maxLen := grownCap_le_maxLen w (n + m) cap e (by unfold maxLen; omega)
  have hlen : (xs ++ news).length = (n + m) * i.size := by rw [List.length_append, hlx, hln, Nat.add_mul]
  refine ⟨_, _, _, hg, ⟨hlen, .inr ⟨w.heap.size, _, _, rfl, Nat.le_refl _, heap_alloc_new w.drew _, hge, hcm, ?_, ?_⟩⟩, ⟨rfl, rfl, rfl, by simp, fun k hk => heap_alloc_old w.drew _ hk⟩⟩
  · simp only [Array.size_append, List.size_toArray, size_zeroCells, hzs, hlx, hln, ← Nat.add_mul]
    congr 1
    omega
  · simp only [Array.toList_append, List.append_assoc]
    rw [← List.append_assoc, ← hlen]
    exact List.take_left
theorem wpList_app_full (w : World) {ops : Array Oper} {rest : List Oper} {op : Oper} {a : Act} {Q : Exit → Act → World → Prop} (hgd : op.guard = none) (s x : Operand) (t : TypeId) (ho : op.op = .call { callee := .builtin .append, args := #[s, x], argTypes := #[t, t] })
    (e : TypeId) (z : Value) (size bytes : Nat) (ht : Tryz.prog.underlying t = some (.slice e)) (hinf : ((Tryz.prog.info? e).map fun i => (i.zero, i.size, i.bytes)) = some (some z, size, bytes)) (hzs : z.cells.size = size)
    (b o n cap : Nat) (xs : List Value) (hs : a.eval s = .slice (some ⟨b, o, none⟩) n cap) (hr0 : Reads w (.slice (some ⟨b, o, none⟩) n cap) n size xs) (hn0 : 0 < n) (b2 o2 m cap2 : Nat) (news : List Value) (hx : a.eval x = .slice (some ⟨b2, o2, none⟩) m cap2) (hr : Reads w (.slice (some ⟨b2, o2, none⟩) m cap2) m size news) (hm0 : 0 < m) (hfull : cap < n + m)
    (hnm : n + m ≤ 2097152) (hby : bytes ≤ 1000)
    (h : ∀ ad' cap' w', w'.ownsRow w.heap.size e size (.slice ad' (n + m) cap') (n + m) (xs ++ news) → Below w.heap.size w w' → wpList Tryz.prog ops Q rest (a.put op.dst (.slice ad' (n + m) cap')) w') : wpList Tryz.prog ops Q (op :: rest) a w :=
  wpList_plain hgd fun _ hK => by
    obtain ⟨ad', cap', w', hrun, h2, h3⟩ := run_app_full w t op.type e z size bytes ht hinf hzs b o n cap xs hr0 hn0 b2 o2 m cap2 news hr hm0 hfull hnm hby
    unfold Oper.wp execOp
    simp only [ho, resolve, invoke, builtin, Sem.run_bind, Sem.run_pure, Result.andThen_ok, List.map_toArray, List.map_cons, List.map_nil, hs, hx, hrun]
    exact hK _ _ (h ad' cap' w' h2 h3)
end Go.Proofs.YtbikmedbmnfdbaaGreatDoor
