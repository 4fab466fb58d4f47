/- Lemmas. -/
import Derived.Test.YtlpbnkideaojeaaGreatDoorQRpG26
namespace Go.Proofs.YtlpbnkideaojeaaGreatDoor
open Go.RowKit
set_option maxRecDepth 100000
set_option linter.unusedSimpArgs false
set_option linter.unusedVariables false
theorem aaF {l : List Fd} (k : Nat) (hk : k < l.length) (h : okF l[k] = false) : dZ l = false := by
 cases e : dZ l
 ·rfl
 ·simp only [dZ, Bool.and_eq_true, List.all_eq_true] at e
  have := e.1 _ (List.getElem_mem hk); rw [h] at this; cases this
theorem aaG {l : List Fd} (h : ∀ f ∈ l, okF f = true) : dZ l = decide (l.length ≤ 20) := by
 have : l.all okF = true := List.all_eq_true.2 h
 simp [dZ, this]
set_option maxHeartbeats 1000000 in
theorem JN (L : List Fd) (v : Value) (w : World) (hr0 : Reads w v L.length 2 (fv L)) (hf : ∀ f ∈ L, f.fine) :
  Calls Tryz.prog 45 #[v] w fun x w' => x = .returned (.bool (dZ L)) ∧ Below w.heap.size w w' := by
 obtain ⟨hl, ad, cap, rfl, h1, h2, h3⟩ := hr0
 have H3 := hide h3; have HF := hide hf
 clear h3 hf
 unfold maxLen at h2
 obtain ⟨R, hR⟩ : ∃ R, R = dZ L := ⟨_, rfl⟩
 rw [← hR]
 have HR := hide hR
 clear hR
 go_enter Tryz.func45, Tryz.ntmps45
 go_wp2_with fail
 go_loopw [3] (fun i wr => ∃ (k : Nat), i = .int .i64 k ∧ k ≤ L.length ∧ (∀ f ∈ L.take k, okF f = true) ∧ Below w.heap.size w wr) (fun i _ => L.length - (intOf i).toNat)
 case atStart => exact ⟨0, rfl, Nat.zero_le _, by simp, Below.refl _ _⟩
 case round =>
  obtain ⟨k, rfl, hk, hall, hb⟩ := hrel
  by_cases hlt : k < L.length
  ·obtain ⟨b, o, rfl, hbw, hc⟩ := H3.out (by omega)
   obtain ⟨s0, s1⟩ := kK L k hlt
   have fT := HF.out _ (List.getElem_mem hlt)
   have HA := hide (Dr L k hlt hall)
   have HB := hide (aaF k hlt)
   obtain ⟨f, bK⟩ : ∃ f, f = L[k] := ⟨_, rfl⟩
   rw [← bK] at s0 s1 fT HA HB
   have c0 : wr.cell? ⟨b, o + k * 2, none⟩ = some (.string f.n) := by rw [hb.cell (p := ⟨b, o + k * 2, none⟩) hbw]; exact hc _ _ s0
   have c1 : wr.cell? ⟨b, o + k * 2 + 1, none⟩ = some (.string f.v) := by rw [hb.cell (p := ⟨b, o + k * 2 + 1, none⟩) hbw]; exact hc _ _ s1
   clear hc s0 s1 bK hall
   cases hok : okF f
   ·have jO := HR.out.trans (HB.out hok)
    subst jO
    clear HB HR HA
    go_wp2_with fail
    refine (yw f _ fT).mono ?_; rw [hok]; rintro x w1 ⟨rfl, hb1⟩
    go_wp2_with fail
    go_ret
    exact ⟨rfl, ah hb hb1⟩
   ·have Gr := hide (HA.out hok)
    clear HA HB
    go_wp2_with fail
    refine (yw f _ fT).mono ?_; rw [hok]; rintro x w1 ⟨rfl, hb1⟩
    go_wp2_with fail
    exact ⟨⟨k + 1, by go_num, by omega, Gr.out, ah hb hb1⟩, by simp [intOf]; omega⟩
  ·obtain rfl : k = L.length := by omega
   rw [List.take_length] at hall
   have jO := HR.out.trans (aaG hall)
   subst jO
   clear HR hall
   go_wp2_with fail
   go_ret
   exact ⟨by simp; omega, hb⟩
def BytesAt (w : World) (base : Nat) (ad : Option Addr) (cap : Nat) (E : ByteArray) : Prop := w.ownsRow base 5 1 (.slice ad E.size cap) E.size ((cB E).map (Value.int .u8))
theorem aaH (s : ByteArray) : Lib.strCells s = (cB s).map (Value.int .u8) := by simp [Lib.strCells, cB]
theorem BL (w : World) {ops : Array Oper} {rest : List Oper} {o : Oper} {a : Act} {Q : Exit → Act → World → Prop} (hgd : o.guard = none) (sl x : Operand) (ho : o.op = .call { callee := .builtin .append, args := #[sl, x], argTypes := #[127, 9] })
  (base : Nat) (ad : Option Addr) (cap : Nat) (E t : ByteArray) (hs : a.eval sl = .slice ad E.size cap) (hown : BytesAt w base ad cap E) (hx : a.eval x = .string t) (hsz : E.size + t.size ≤ 1000000) (hbase : base ≤ w.heap.size)
  (h : ∀ oJ cap' X w', X = E ++ t → BytesAt w' base oJ cap' X → w.grownBy w' (Value.slice ad E.size cap).ownBlock → wpList Tryz.prog ops Q rest (a.put o.dst (.slice oJ X.size cap')) w') : wpList Tryz.prog ops Q (o :: rest) a w := by
 obtain ⟨i, hi, hz, hs1, hb⟩ := info_parts (P := Tryz.prog) (e := 5) (z := .int .u8 0) (size := 1) (bytes := 1) (by kernel_rfl)
 refine Lib.wpList_append_own_string w hgd sl x 127 9 ho base 5 i Tryz.underlying127 Tryz.underlying9 hi hz hs1 hb _ E.size _ hs hown t hx (by unfold maxLen; omega) (by omega) hbase ?_
 intro v' w' h2 h3 _
 obtain ⟨oJ, cap', rfl, _⟩ := bW h2
 rw [aaH, ← List.map_append, ← kZ] at h2
 have e : E.size + t.size = (E ++ t).size := (iZ E t).symm
 rw [e] at h2 ⊢
 exact h oJ cap' _ w' rfl h2 h3
theorem aas (w : World) : BytesAt (w.alloc (.cells #[] 5)) w.heap.size (some ⟨w.heap.size, 0, none⟩) 0 ⟨#[]⟩ :=
 ⟨rfl, .inr ⟨w.heap.size, 0, #[], rfl, Nat.le_refl _, heap_alloc_last w _, Nat.le_refl _, Nat.zero_le _, rfl, rfl⟩⟩
theorem yX {w w' : World} {base : Nat} {ad : Option Addr} {cap : Nat} {E : ByteArray} (h : BytesAt w base ad cap E) (hb : Below w.heap.size w w') : BytesAt w' base ad cap E := aX h hb
theorem aav {w : World} {base : Nat} {ad : Option Addr} {cap : Nat} {E : ByteArray} (h : BytesAt w base ad cap E) : (convert 127 9 (.slice ad E.size cap)).run Tryz.prog w = .ok (.string E) w := by
 have := iY h (GU E)
 rw [VJ] at this
 exact this
theorem Ql {w : World} {base : Nat} {ad : Option Addr} {cap : Nat} {E : ByteArray} (h : BytesAt w base ad cap E) {b : Nat} {ty : TypeId} {cs : Array Value} (hr : w.heap[b]? = some (.cells cs ty (0, 0))) (hty : ty ≠ 5) : (Value.slice ad E.size cap).ownBlock ≠ some b := by
 intro e
 rcases h.2 with ⟨h1, _⟩ | ⟨g, c, cur, h1, _, h2, _⟩
 ·rw [h1] at e; simp [Value.ownBlock] at e
 ·rw [h1] at e
  simp only [Value.ownBlock, Option.some.injEq] at e
  subst e
  rw [hr] at h2
  simp only [Option.some.injEq, Obj.cells.injEq] at h2
  exact hty h2.2.1
theorem aar {w : World} {base base' : Nat} {ad : Option Addr} {cap : Nat} {E : ByteArray} (h : BytesAt w base ad cap E) {e : TypeId} {size n : Nat} {v : Value} {xs : List Value} (ho : w.ownsRow base' e size v n xs) (hty : e ≠ 5) : ∀ k, v.ownBlock = some k → (Value.slice ad E.size cap).ownBlock ≠ some k := by
 intro k hk
 rcases ho.2 with ⟨h1, _⟩ | ⟨g, c, cur, h1, _, h2, _⟩
 ·rw [h1] at hk; simp [Value.ownBlock] at hk
 ·rw [h1] at hk
  simp only [Value.ownBlock, Option.some.injEq] at hk
  subst hk
  exact Ql h h2 hty
theorem BN {w w' : World} {ad : Option Addr} {cap base : Nat} {E : ByteArray} {g : Nat} {w0 : World} (ht : Turn g (g + 1) w0 w) (hb : BytesAt w base ad cap E) (hbase : w0.heap.size ≤ base) (hg : w.grownBy w' (Value.slice ad E.size cap).ownBlock) : Turn g (g + 1) w0 w' :=
 ⟨hg.os.trans ht.os, hg.tape.trans ht.tape, hg.output.trans ht.output, Nat.le_trans ht.size hg.size, fun k hk hh => (hg.block k (Nat.lt_of_lt_of_le hk ht.size) (fun e => by have := (hb.lt k e.symm).1; omega)).trans (ht.block k hk hh)⟩
theorem Qp {n b h : Int} (k : jl n b h = true) : strOf (kY h (bytesOf n (pw b - 1))) = aY n b h := ((Ej k).2).symm
end Go.Proofs.YtlpbnkideaojeaaGreatDoor
