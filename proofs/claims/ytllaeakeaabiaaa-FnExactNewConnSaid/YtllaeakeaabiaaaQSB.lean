/- The model's Encoded. -/
import Derived.Test.YtllaeakeaabiaaaQBlocks5
import Derived.Test.YtllaeakeaabiaaaQG9
import Derived.Lib.AppendStr
namespace Go.Proofs.Ytllaeakeaabiaaa
open Go.RowKit
set_option maxRecDepth 100000
set_option linter.unusedSimpArgs false
set_option linter.unusedVariables false

theorem okFs_bad {l : List Fd} (k : Nat) (hk : k < l.length) (h : okF l[k] = false) : okFs l = false := by
  cases e : okFs l
  · rfl
  · simp only [okFs, Bool.and_eq_true, List.all_eq_true] at e
    have := e.1 _ (List.getElem_mem hk); rw [h] at this; cases this
theorem okFs_all {l : List Fd} (h : ∀ f ∈ l, okF f = true) : okFs l = decide (l.length ≤ 20) := by
  have : l.all okF = true := List.all_eq_true.2 h
  simp [okFs, this]

set_option maxHeartbeats 1000000 in
theorem specFields (L : List Fd) (v : Value) (w : World) (hr0 : Reads w v L.length 2 (fv L)) (hf : ∀ f ∈ L, f.fine) :
    Calls Try.prog 21 #[v] w fun x w' => x = .returned (.bool (okFs L)) ∧ Below w.heap.size w w' := by
  obtain ⟨hl, ad, cap, rfl, h1, h2, h3⟩ := hr0
  have H3 := hide h3; have HF := hide hf
  clear h3 hf
  unfold maxLen at h2
  obtain ⟨R, hR⟩ : ∃ R, R = okFs L := ⟨_, rfl⟩
  rw [← hR]
  have HR := hide hR
  clear hR
  go_enter Try.func21, Try.ntmps21
  go_wp2_with fail
  go_loopw [3] (fun i wr => ∃ (k : Nat), i = .int .i64 k ∧ k ≤ L.length ∧ (∀ f ∈ L.take k, okF f = true) ∧ Below w.heap.size w wr) (fun i _ => L.length - (intOf i).toNat)
  case atStart => exact ⟨0, rfl, Nat.zero_le _, by simp, Below.refl _ _⟩
  case round =>
    obtain ⟨k, rfl, hk, hall, hb⟩ := hrel
    by_cases hlt : k < L.length
    · obtain ⟨b, o, rfl, hbw, hc⟩ := H3.out (by omega)
      obtain ⟨s0, s1⟩ := fv_get L k hlt
      have hfk := HF.out _ (List.getElem_mem hlt)
      have HA := hide (all_take_succ L k hlt hall)
      have HB := hide (okFs_bad k hlt)
      obtain ⟨f, hff⟩ : ∃ f, f = L[k] := ⟨_, rfl⟩
      rw [← hff] at s0 s1 hfk HA HB
      have c0 : wr.cell? ⟨b, o + k * 2, none⟩ = some (.string f.n) := by rw [hb.cell (p := ⟨b, o + k * 2, none⟩) hbw]; exact hc _ _ s0
      have c1 : wr.cell? ⟨b, o + k * 2 + 1, none⟩ = some (.string f.v) := by rw [hb.cell (p := ⟨b, o + k * 2 + 1, none⟩) hbw]; exact hc _ _ s1
      clear hc s0 s1 hff hall
      cases hok : okF f
      · have hRf := HR.out.trans (HB.out hok)
        subst hRf
        clear HB HR HA
        go_wp2_with fail
        refine (specField f _ hfk).mono ?_; rw [hok]; rintro x w1 ⟨rfl, hb1⟩
        go_wp2_with fail
        go_ret
        exact ⟨rfl, bchain hb hb1⟩
      · have HAA := hide (HA.out hok)
        clear HA HB
        go_wp2_with fail
        refine (specField f _ hfk).mono ?_; rw [hok]; rintro x w1 ⟨rfl, hb1⟩
        go_wp2_with fail
        exact ⟨⟨k + 1, by go_num, by omega, HAA.out, bchain hb hb1⟩, by simp [intOf]; omega⟩
    · obtain rfl : k = L.length := by omega
      rw [List.take_length] at hall
      have hRf := HR.out.trans (okFs_all hall)
      subst hRf
      clear HR hall
      go_wp2_with fail
      go_ret
      exact ⟨by simp; omega, hb⟩

/-- Bytes in a row of their own. -/
def BytesAt (w : World) (base : Nat) (ad : Option Addr) (cap : Nat) (E : ByteArray) : Prop := w.ownsRow base 5 1 (.slice ad E.size cap) E.size ((bys E).map (Value.int .u8))
theorem strCells_bys (s : ByteArray) : Lib.strCells s = (bys s).map (Value.int .u8) := by simp [Lib.strCells, bys]

theorem wpList_str (w : World) {ops : Array Oper} {rest : List Oper} {o : Oper} {a : Act} {Q : Exit → Act → World → Prop} (hgd : o.guard = none) (sl x : Operand) (ho : o.op = .call { callee := .builtin .append, args := #[sl, x], argTypes := #[117, 9] })
    (base : Nat) (ad : Option Addr) (cap : Nat) (E t : ByteArray) (hs : a.eval sl = .slice ad E.size cap) (hown : BytesAt w base ad cap E) (hx : a.eval x = .string t) (hsz : E.size + t.size ≤ 1000000) (hbase : base ≤ w.heap.size)
    (h : ∀ ad' cap' X w', X = E ++ t → BytesAt w' base ad' cap' X → w.grownBy w' (Value.slice ad E.size cap).ownBlock → wpList Try.prog ops Q rest (a.put o.dst (.slice ad' X.size cap')) w') : wpList Try.prog ops Q (o :: rest) a w := by
  obtain ⟨i, hi, hz, hs1, hb⟩ := info_parts (P := Try.prog) (e := 5) (z := .int .u8 0) (size := 1) (bytes := 1) (by kernel_rfl)
  refine Lib.wpList_append_own_string w hgd sl x 117 9 ho base 5 i Try.underlying117 Try.underlying9 hi hz hs1 hb _ E.size _ hs hown t hx (by unfold maxLen; omega) (by omega) hbase ?_
  intro v' w' h2 h3 _
  obtain ⟨ad', cap', rfl, _⟩ := owns_form h2
  rw [strCells_bys, ← List.map_append, ← bys_append] at h2
  have e : E.size + t.size = (E ++ t).size := (ba_size_append E t).symm
  rw [e] at h2 ⊢
  exact h ad' cap' _ w' rfl h2 h3
theorem bytes_new (w : World) : BytesAt (w.alloc (.cells #[] 5)) w.heap.size (some ⟨w.heap.size, 0, none⟩) 0 ⟨#[]⟩ :=
  ⟨rfl, .inr ⟨w.heap.size, 0, #[], rfl, Nat.le_refl _, heap_alloc_last w _, Nat.le_refl _, Nat.zero_le _, rfl, rfl⟩⟩
theorem bytes_later {w w' : World} {base : Nat} {ad : Option Addr} {cap : Nat} {E : ByteArray} (h : BytesAt w base ad cap E) (hb : Below w.heap.size w w') : BytesAt w' base ad cap E := owns_new h hb
theorem bytes_string {w : World} {base : Nat} {ad : Option Addr} {cap : Nat} {E : ByteArray} (h : BytesAt w base ad cap E) : (convert 117 9 (.slice ad E.size cap)).run Try.prog w = .ok (.string E) w := by
  have := row_string h (bys_range E)
  rw [strOf_bys] at this
  exact this
theorem bytes_not_row {w : World} {base : Nat} {ad : Option Addr} {cap : Nat} {E : ByteArray} (h : BytesAt w base ad cap E) {b : Nat} {ty : TypeId} {cs : Array Value} (hr : w.heap[b]? = some (.cells cs ty (0, 0))) (hty : ty ≠ 5) : (Value.slice ad E.size cap).ownBlock ≠ some b := by
  intro e
  rcases h.2 with ⟨h1, _⟩ | ⟨g, c, cur, h1, _, h2, _⟩
  · rw [h1] at e; simp [Value.ownBlock] at e
  · rw [h1] at e
    simp only [Value.ownBlock, Option.some.injEq] at e
    subst e
    rw [hr] at h2
    simp only [Option.some.injEq, Obj.cells.injEq] at h2
    exact hty h2.2.1
theorem bytes_not_own {w : World} {base base' : Nat} {ad : Option Addr} {cap : Nat} {E : ByteArray} (h : BytesAt w base ad cap E) {e : TypeId} {size n : Nat} {v : Value} {xs : List Value} (ho : w.ownsRow base' e size v n xs) (hty : e ≠ 5) : ∀ k, v.ownBlock = some k → (Value.slice ad E.size cap).ownBlock ≠ some k := by
  intro k hk
  rcases ho.2 with ⟨h1, _⟩ | ⟨g, c, cur, h1, _, h2, _⟩
  · rw [h1] at hk; simp [Value.ownBlock] at hk
  · rw [h1] at hk
    simp only [Value.ownBlock, Option.some.injEq] at hk
    subst hk
    exact bytes_not_row h h2 hty
/-- A table stays as it is while bytes are put behind bytes. -/
theorem tabAt_bytes {w w' : World} {g base base' : Nat} {room : Int} {L : List Fd} {ad : Option Addr} {cap : Nat} {E : ByteArray} (h : TabAt w g base room L) (hb : BytesAt w base' ad cap E) (hg : w.grownBy w' (Value.slice ad E.size cap).ownBlock) : TabAt w' g base room L := by
  obtain ⟨a, p, h1, h2, h3⟩ := h.ex
  exact ⟨⟨a, p, h1.kept (hg.block g h1.lt (fun e => bytes_not_row hb h1 (by decide) e.symm)), owns_kept h2 (fun k hk hlt => hg.block k hlt (fun e => bytes_not_own hb h2 (by decide) k hk e.symm)), h3⟩⟩
theorem tabAt_lt {w : World} {g base : Nat} {room : Int} {L : List Fd} (h : TabAt w g base room L) : g < w.heap.size := by obtain ⟨a, p, h1, _, _⟩ := h.ex; exact h1.lt
theorem grown_turn {w w' : World} {ad : Option Addr} {cap base : Nat} {E : ByteArray} {g : Nat} {w0 : World} (ht : Turn g (g + 1) w0 w) (hb : BytesAt w base ad cap E) (hbase : w0.heap.size ≤ base) (hg : w.grownBy w' (Value.slice ad E.size cap).ownBlock) : Turn g (g + 1) w0 w' :=
  ⟨hg.os.trans ht.os, hg.tape.trans ht.tape, hg.output.trans ht.output, Nat.le_trans ht.size hg.size, fun k hk hh => (hg.block k (Nat.lt_of_lt_of_le hk ht.size) (fun e => by have := (hb.lt k e.symm).1; omega)).trans (ht.block k hk hh)⟩
end Go.Proofs.Ytllaeakeaabiaaa
