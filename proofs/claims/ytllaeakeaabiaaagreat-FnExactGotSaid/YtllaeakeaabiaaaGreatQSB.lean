/- Several small texts of one level, one behind the other. -/
import Derived.Test.YtllaeakeaabiaaaGreatQG28
import Derived.Test.YtllaeakeaabiaaaGreatQG9
import Derived.Lib.AppendStr
import Derived.Test.YtllaeakeaabiaaaGreatQG2
/- The model's Encoded. -/
namespace Go.Proofs.YtllaeakeaabiaaaGreat
open Go.RowKit
set_option maxRecDepth 100000
set_option linter.unusedSimpArgs false
set_option linter.unusedVariables false

theorem okFs_bad {l : List Fd} (k : Nat) (hk : k < l.length) (h : okF l[k] = false) : okFs l = false := by
  cases e : okFs l
  · rfl
  · simp only [okFs, Bool.and_eq_true, List.all_eq_true] at e
    have := e.1 _ (List.getElem_mem hk); rw [h] at this; cases this
theorem okFs_all {l : List Fd} (h : ∀ f ∈ l, okF f = true) : okFs l = decide (l.length ≤ 20) := by
  have : l.all okF = true := List.all_eq_true.2 h
  simp [okFs, this]

set_option maxHeartbeats 1000000 in
theorem specFields (L : List Fd) (v : Value) (w : World) (hr0 : Reads w v L.length 2 (fv L)) (hf : ∀ f ∈ L, f.fine) :
    Calls Tryz.prog 52 #[v] w fun x w' => x = .returned (.bool (okFs L)) ∧ Below w.heap.size w w' := by
  obtain ⟨hl, ad, cap, rfl, h1, h2, h3⟩ := hr0
  have H3 := hide h3; have HF := hide hf
  clear h3 hf
  unfold maxLen at h2
  obtain ⟨R, hR⟩ : ∃ R, R = okFs L := ⟨_, rfl⟩
  rw [← hR]
  have HR := hide hR
  clear hR
  go_enter Tryz.func52, Tryz.ntmps52
  go_wp2_with fail
  go_loopw [3] (fun i wr => ∃ (k : Nat), i = .int .i64 k ∧ k ≤ L.length ∧ (∀ f ∈ L.take k, okF f = true) ∧ Below w.heap.size w wr) (fun i _ => L.length - (intOf i).toNat)
  case atStart => exact ⟨0, rfl, Nat.zero_le _, by simp, Below.refl _ _⟩
  case round =>
    obtain ⟨k, rfl, hk, hall, hb⟩ := hrel
    by_cases hlt : k < L.length
    · obtain ⟨b, o, rfl, hbw, hc⟩ := H3.out (by omega)
      obtain ⟨s0, s1⟩ := fv_get L k hlt
      have hfk := HF.out _ (List.getElem_mem hlt)
      have HA := hide (all_take_succ L k hlt hall)
      have HB := hide (okFs_bad k hlt)
      obtain ⟨f, hff⟩ : ∃ f, f = L[k] := ⟨_, rfl⟩
      rw [← hff] at s0 s1 hfk HA HB
      have c0 : wr.cell? ⟨b, o + k * 2, none⟩ = some (.string f.n) := by rw [hb.cell (p := ⟨b, o + k * 2, none⟩) hbw]; exact hc _ _ s0
      have c1 : wr.cell? ⟨b, o + k * 2 + 1, none⟩ = some (.string f.v) := by rw [hb.cell (p := ⟨b, o + k * 2 + 1, none⟩) hbw]; exact hc _ _ s1
      clear hc s0 s1 hff hall
      cases hok : okF f
      · have hRf := HR.out.trans (HB.out hok)
        subst hRf
        clear HB HR HA
        go_wp2_with fail
        refine (specField f _ hfk).mono ?_; rw [hok]; rintro x w1 ⟨rfl, hb1⟩
        go_wp2_with fail
        go_ret
        exact ⟨rfl, bchain hb hb1⟩
      · have HAA := hide (HA.out hok)
        clear HA HB
        go_wp2_with fail
        refine (specField f _ hfk).mono ?_; rw [hok]; rintro x w1 ⟨rfl, hb1⟩
        go_wp2_with fail
        exact ⟨⟨k + 1, by go_num, by omega, HAA.out, bchain hb hb1⟩, by simp [intOf]; omega⟩
    · obtain rfl : k = L.length := by omega
      rw [List.take_length] at hall
      have hRf := HR.out.trans (okFs_all hall)
      subst hRf
      clear HR hall
      go_wp2_with fail
      go_ret
      exact ⟨by simp; omega, hb⟩

/-- Bytes in a row of their own. -/
def BytesAt (w : World) (base : Nat) (ad : Option Addr) (cap : Nat) (E : ByteArray) : Prop := w.ownsRow base 5 1 (.slice ad E.size cap) E.size ((bys E).map (Value.int .u8))
theorem strCells_bys (s : ByteArray) : Lib.strCells s = (bys s).map (Value.int .u8) := by simp [Lib.strCells, bys]

theorem wpList_str (w : World) {ops : Array Oper} {rest : List Oper} {o : Oper} {a : Act} {Q : Exit → Act → World → Prop} (hgd : o.guard = none) (sl x : Operand) (ho : o.op = .call { callee := .builtin .append, args := #[sl, x], argTypes := #[131, 9] })
    (base : Nat) (ad : Option Addr) (cap : Nat) (E t : ByteArray) (hs : a.eval sl = .slice ad E.size cap) (hown : BytesAt w base ad cap E) (hx : a.eval x = .string t) (hsz : E.size + t.size ≤ 1000000) (hbase : base ≤ w.heap.size)
    (h : ∀ ad' cap' X w', X = E ++ t → BytesAt w' base ad' cap' X → w.grownBy w' (Value.slice ad E.size cap).ownBlock → wpList Tryz.prog ops Q rest (a.put o.dst (.slice ad' X.size cap')) w') : wpList Tryz.prog ops Q (o :: rest) a w := by
  obtain ⟨i, hi, hz, hs1, hb⟩ := info_parts (P := Tryz.prog) (e := 5) (z := .int .u8 0) (size := 1) (bytes := 1) (by kernel_rfl)
  refine Lib.wpList_append_own_string w hgd sl x 131 9 ho base 5 i Tryz.underlying131 Tryz.underlying9 hi hz hs1 hb _ E.size _ hs hown t hx (by unfold maxLen; omega) (by omega) hbase ?_
  intro v' w' h2 h3 _
  obtain ⟨ad', cap', rfl, _⟩ := owns_form h2
  rw [strCells_bys, ← List.map_append, ← bys_append] at h2
  have e : E.size + t.size = (E ++ t).size := (ba_size_append E t).symm
  rw [e] at h2 ⊢
  exact h ad' cap' _ w' rfl h2 h3
theorem bytes_new (w : World) : BytesAt (w.alloc (.cells #[] 5)) w.heap.size (some ⟨w.heap.size, 0, none⟩) 0 ⟨#[]⟩ :=
  ⟨rfl, .inr ⟨w.heap.size, 0, #[], rfl, Nat.le_refl _, heap_alloc_last w _, Nat.le_refl _, Nat.zero_le _, rfl, rfl⟩⟩
theorem bytes_later {w w' : World} {base : Nat} {ad : Option Addr} {cap : Nat} {E : ByteArray} (h : BytesAt w base ad cap E) (hb : Below w.heap.size w w') : BytesAt w' base ad cap E := owns_new h hb
theorem bytes_string {w : World} {base : Nat} {ad : Option Addr} {cap : Nat} {E : ByteArray} (h : BytesAt w base ad cap E) : (convert 131 9 (.slice ad E.size cap)).run Tryz.prog w = .ok (.string E) w := by
  have := row_string h (bys_range E)
  rw [strOf_bys] at this
  exact this
theorem bytes_not_row {w : World} {base : Nat} {ad : Option Addr} {cap : Nat} {E : ByteArray} (h : BytesAt w base ad cap E) {b : Nat} {ty : TypeId} {cs : Array Value} (hr : w.heap[b]? = some (.cells cs ty (0, 0))) (hty : ty ≠ 5) : (Value.slice ad E.size cap).ownBlock ≠ some b := by
  intro e
  rcases h.2 with ⟨h1, _⟩ | ⟨g, c, cur, h1, _, h2, _⟩
  · rw [h1] at e; simp [Value.ownBlock] at e
  · rw [h1] at e
    simp only [Value.ownBlock, Option.some.injEq] at e
    subst e
    rw [hr] at h2
    simp only [Option.some.injEq, Obj.cells.injEq] at h2
    exact hty h2.2.1
theorem bytes_not_own {w : World} {base base' : Nat} {ad : Option Addr} {cap : Nat} {E : ByteArray} (h : BytesAt w base ad cap E) {e : TypeId} {size n : Nat} {v : Value} {xs : List Value} (ho : w.ownsRow base' e size v n xs) (hty : e ≠ 5) : ∀ k, v.ownBlock = some k → (Value.slice ad E.size cap).ownBlock ≠ some k := by
  intro k hk
  rcases ho.2 with ⟨h1, _⟩ | ⟨g, c, cur, h1, _, h2, _⟩
  · rw [h1] at hk; simp [Value.ownBlock] at hk
  · rw [h1] at hk
    simp only [Value.ownBlock, Option.some.injEq] at hk
    subst hk
    exact bytes_not_row h h2 hty
/-- A table stays as it is while bytes are put behind bytes. -/
theorem tabAt_bytes {w w' : World} {g base base' : Nat} {room : Int} {L : List Fd} {ad : Option Addr} {cap : Nat} {E : ByteArray} (h : TabAt w g base room L) (hb : BytesAt w base' ad cap E) (hg : w.grownBy w' (Value.slice ad E.size cap).ownBlock) : TabAt w' g base room L := by
  obtain ⟨a, p, h1, h2, h3⟩ := h.ex
  exact ⟨⟨a, p, h1.kept (hg.block g h1.lt (fun e => bytes_not_row hb h1 (by decide) e.symm)), owns_kept h2 (fun k hk hlt => hg.block k hlt (fun e => bytes_not_own hb h2 (by decide) k hk e.symm)), h3⟩⟩
theorem tabAt_lt {w : World} {g base : Nat} {room : Int} {L : List Fd} (h : TabAt w g base room L) : g < w.heap.size := by obtain ⟨a, p, h1, _, _⟩ := h.ex; exact h1.lt
theorem grown_turn {w w' : World} {ad : Option Addr} {cap base : Nat} {E : ByteArray} {g : Nat} {w0 : World} (ht : Turn g (g + 1) w0 w) (hb : BytesAt w base ad cap E) (hbase : w0.heap.size ≤ base) (hg : w.grownBy w' (Value.slice ad E.size cap).ownBlock) : Turn g (g + 1) w0 w' :=
  ⟨hg.os.trans ht.os, hg.tape.trans ht.tape, hg.output.trans ht.output, Nat.le_trans ht.size hg.size, fun k hk hh => (hg.block k (Nat.lt_of_lt_of_le hk ht.size) (fun e => by have := (hb.lt k e.symm).1; omega)).trans (ht.block k hk hh)⟩
end Go.Proofs.YtllaeakeaabiaaaGreat
/- The model's way to write a list of Fields. -/
namespace Go.Proofs.YtllaeakeaabiaaaGreat
open Go.RowKit
set_option maxRecDepth 100000
set_option linter.unusedSimpArgs false
set_option linter.unusedVariables false

theorem pre_is {n b h : Int} (k : okP n b h = true) : strOf (addHead h (bytesOf n (pw b - 1))) = preV n b h := ((okP_bytes k).2).symm

set_option maxRecDepth 100000 in
set_option maxHeartbeats 8000000 in
theorem encode1 (g base : Nat) (room : Int) (L l : List Fd) (lv : Value) (w : World) (h : TabAt w g base room L) (hok : okT room L = true) (hokl : ∀ f ∈ l, okF f = true) (hl20 : l.length ≤ 20) (hr1 : Reads w lv l.length 2 (fv l)) (hlg : 0 < l.length → ∀ k, lv.ownBlock = some k → k ≠ g) (hbs : base ≤ w.heap.size) :
    Calls Tryz.prog 154 #[.pointer (some ⟨g, 0, none⟩), lv] w fun x w' => x = .returned (.string (encL room L l).1) ∧ TabAt w' g base room (encL room L l).2 ∧ Turn g (g + 1) w w' := by
  have hgw := tabAt_lt h
  have HT := hide h; have HRL := hide hr1; have HOK := hide hokl
  obtain ⟨la, lc, rfl, hlc, hlm, h3⟩ := hr1.2
  have H3 := hide h3
  have HLG := hide hlg
  unfold maxLen at hlm
  clear h hr1 h3 hokl hlg
  go_enter Tryz.func154, Tryz.ntmps154
  go_wp2_with fail
  go_loopw [5, 6] (fun bv i wr => ∃ (k : Nat) (ad : Option Addr) (cap : Nat), i = .int .i64 k ∧ k ≤ l.length ∧ bv = .slice ad (encL room L (l.take k)).1.size cap ∧ BytesAt wr w.heap.size ad cap (encL room L (l.take k)).1 ∧ TabAt wr g base room (encL room L (l.take k)).2 ∧ Turn g (g + 1) w wr) (fun _ i _ => l.length - (intOf i).toNat)
  case atStart => exact ⟨0, _, _, rfl, Nat.zero_le _, rfl, bytes_new w, tabAt_later HT.out ((Below.refl _ _).alloc (Nat.le_refl _) _), (Turn.refl _ _ _).alloc _⟩
  case round =>
    obtain ⟨k, ad0, cap0, rfl, hk, rfl, hby0, ht0, htu⟩ := hrel
    have hEz := encL_size (room := room) (l.take k) L
    rw [List.length_take, Nat.min_eq_left hk] at hEz
    replace hEz : (encL room L (l.take k)).1.size ≤ 10000 := by omega
    have HOKN := hide (encL_ok (room := room) (l.take k) hok fun f hf => HOK.out f (List.mem_of_mem_take hf))
    by_cases hlt : k < l.length
    · have HTK := hide (encL_take (room := room) L l k hlt)
      have hfk := HOK.out _ (List.getElem_mem hlt)
      obtain ⟨b, o, rfl, hbb, hc⟩ := H3.out (by omega)
      obtain ⟨s0, s1⟩ := fv_get l k hlt
      have hbg := HLG.out (by omega) b rfl
      have C0 := hide (hc _ _ s0); have C1 := hide (hc _ _ s1)
      have c0 : wr.cell? ⟨b, o + k * 2, none⟩ = some (.string l[k].n) := by rw [htu.cell b (o + k * 2) hbb (by omega)]; exact hc _ _ s0
      have c1 : wr.cell? ⟨b, o + k * 2 + 1, none⟩ = some (.string l[k].v) := by rw [htu.cell b (o + k * 2 + 1) hbb (by omega)]; exact hc _ _ s1
      obtain ⟨f, hff⟩ : ∃ f, l[k] = f := ⟨_, rfl⟩
      rw [hff] at HTK hfk c0 c1 C0 C1
      clear hff
      obtain ⟨⟨es, N⟩, hE⟩ : ∃ E, encL room L (l.take k) = E := ⟨_, rfl⟩
      rw [hE] at HTK hEz HOKN hby0 ht0 ⊢
      simp only at HTK hEz HOKN hby0 ht0 ⊢
      have hNl := (okT_parts HOKN.out).2.2.2.2
      obtain ⟨a, p, hx, ho, hap⟩ := ht0.ex
      have x0 := hx.cell (j := 0) rfl
      have x1 := hx.cell (j := 1) rfl
      have hlx := hx.lt
      have hlb : b < wr.heap.size := Nat.lt_of_lt_of_le hbb htu.size
      have HBY := hide hby0; have HT := hide ht0; have HTU := hide htu; have HO := hide ho
      clear hc s0 s1 hx ho hap hby0 ht0 htu hE
      have hFz := encF_size (room := room) (L := N) f
      obtain ⟨F, hF⟩ : ∃ F, encF room N f = F := ⟨_, rfl⟩
      have hEE := hF
      unfold encF at hEE
      have hlk := look_range N f
      obtain ⟨⟨n, al⟩, hD⟩ : ∃ D, lookL N f = D := ⟨_, rfl⟩
      rw [hD] at hEE hlk
      rw [hF] at HTK hFz
      have HEE := hide hEE
      clear hEE hF
      simp only at hlk
      obtain ⟨n0, n1⟩ := hlk
      have nb : n ≤ 111 := by omega
      have hsw := HTU.out.size
      go_wp2_with fail
      have q0 : ∀ y : Later wr, y.w.cell? ⟨g, 0, none⟩ = some (.int .i64 room) := fun y => (y.b.cell (p := ⟨g, 0, none⟩) hlx).trans x0
      have q1 : ∀ y : Later wr, y.w.cell? ⟨g, 1, none⟩ = some (.slice a N.length p) := fun y => (y.b.cell (p := ⟨g, 1, none⟩) hlx).trans x1
      have q2 : ∀ y : Later wr, y.w.cell? ⟨b, o + k * 2, none⟩ = some (.string f.n) := fun y => (y.b.cell (p := ⟨b, o + k * 2, none⟩) hlb).trans c0
      have q3 : ∀ y : Later wr, y.w.cell? ⟨b, o + k * 2 + 1, none⟩ = some (.string f.v) := fun y => (y.b.cell (p := ⟨b, o + k * 2 + 1, none⟩) hlb).trans c1
      clear x0 x1
      have HCL : Hid (∀ u, Below wr.heap.size wr u → Calls Tryz.prog 191 #[.agg #[.int .i64 room, .slice a N.length p], .agg #[.string f.n, .string f.v]] u fun x w' => x = .returned (.tuple #[.int .i64 n, .bool al]) ∧ Below u.heap.size u w') := fun u hu => by
        have := specLookL N room (.slice a N.length p) f u ((reads_of_owns HO.out).new hu) hNl
        rw [hD] at this
        exact this
      have hne : Nonempty (Later wr) := ⟨⟨wr, Below.refl _ _⟩⟩; refine region_later (by kernel_rfl) (by kernel_rfl) ?_
      repeat (go_big_quiet_step (fail))
      go_big_quiet_want; go_big_quiet_op; refine ⟨.tuple #[.int .i64 n, .bool al], fun y => later_calls (x := y) ((fun _ => HCL.out y.w y.b) y.w), ?_⟩; go_big_quiet_on
      repeat (go_big_quiet_step (fail))
      refine wpQuiet_nil ?_; intro _ hw'; obtain ⟨y, hw''⟩ := hw'; subst hw''; have hby := y.b
      clear q0 q1 q2 q3 hne HCL hD
      obtain ⟨w5, hw5⟩ : ∃ w5, y.w = w5 := ⟨_, rfl⟩
      rw [hw5] at hby ⊢
      clear hw5 y
      replace HBY := hide (bytes_later HBY.out hby); replace HT := hide (tabAt_later HT.out hby); replace HTU := hide (HTU.out.trans (turn_new hby _ _))
      clear c0 c1 hby HO
      cases al
      · have HEF : Hid ((preV n 6 64 ++ ((if n = 0 then litV f.n else ⟨#[]⟩) ++ litV f.v), shr room (f :: N)) = F) := by show _ = _; simpa using HEE.out
        clear HEE
        have ok6 := okP_6 n0 nb
        have p1 := preV_small n 6 64
        have p2 := litV_small f.n
        have p3 := litV_small f.v
        obtain ⟨g1, g2, g3⟩ := okF_parts hfk
        have m1 : f.n.size ≤ maxLen := by unfold maxLen; omega
        have m2 : f.v.size ≤ maxLen := by unfold maxLen; omega
        have HALN : Hid (∀ u ∈ N, okF u = true) := (okT_parts HOKN.out).2.2.1
        have hr0 := (okT_parts HOKN.out).1
        go_wp2_with fail
        refine (specL3 n 6 64 _ n0 (by omega) (by omega) (by omega) (by omega) (by simp [pw])).mono ?_; rw [pre_is ok6]; rintro x w6 ⟨rfl, hbw6⟩
        replace HBY := hide (bytes_later HBY.out hbw6); replace HT := hide (tabAt_later HT.out hbw6); replace HTU := hide (HTU.out.trans (turn_new hbw6 _ _))
        clear hbw6
        go_wp2_with (at_builtin; refine wpList_str _ rfl _ _ rfl w.heap.size ad0 cap0 (es) (preV n 6 64) rfl HBY.out rfl (by omega) (by have := HTU.out.size; omega) ?_)
        intro ad1 cap1 E1 w7 hE1 hbyw7 hgw7
        replace HT := hide (tabAt_bytes HT.out HBY.out hgw7); replace HTU := hide (grown_turn HTU.out HBY.out (Nat.le_refl _) hgw7); replace HBY := hide hbyw7
        clear hbyw7 hgw7
        have hEz1 : E1.size ≤ 10006 := by rw [hE1, ba_size_append]; omega
        have HE1 := hide hE1
        clear hE1
        by_cases hn0 : n = 0
        · subst hn0
          have c0 := (HTU.out.cell b (o + k * 2) hbb (by omega)).trans C0.out
          have c1 := (HTU.out.cell b (o + k * 2 + 1) hbb (by omega)).trans C1.out
          go_wp2_with fail
          refine (specLiteral f.n _ m1).mono ?_; rintro x w8 ⟨rfl, hbw8⟩
          replace HBY := hide (bytes_later HBY.out hbw8); replace HT := hide (tabAt_later HT.out hbw8); replace HTU := hide (HTU.out.trans (turn_new hbw8 _ _))
          clear hbw8
          go_wp2_with (at_builtin; refine wpList_str _ rfl _ _ rfl w.heap.size ad1 cap1 (E1) (litV f.n) rfl HBY.out rfl (by omega) (by have := HTU.out.size; omega) ?_)
          intro ad2 cap2 E2 w9 hE2 hbyw9 hgw9
          replace HT := hide (tabAt_bytes HT.out HBY.out hgw9); replace HTU := hide (grown_turn HTU.out HBY.out (Nat.le_refl _) hgw9); replace HBY := hide hbyw9
          clear hbyw9 hgw9
          have hEz2 : E2.size ≤ 10212 := by rw [hE2, ba_size_append]; omega
          have HE2 := hide hE2
          clear hE2
          clear c0 c1
          have c0 := (HTU.out.cell b (o + k * 2) hbb (by omega)).trans C0.out
          have c1 := (HTU.out.cell b (o + k * 2 + 1) hbb (by omega)).trans C1.out
          go_wp2_with fail
          refine (specLiteral f.v _ m2).mono ?_; rintro x w10 ⟨rfl, hbw10⟩
          replace HBY := hide (bytes_later HBY.out hbw10); replace HT := hide (tabAt_later HT.out hbw10); replace HTU := hide (HTU.out.trans (turn_new hbw10 _ _))
          clear hbw10
          go_wp2_with (at_builtin; refine wpList_str _ rfl _ _ rfl w.heap.size ad2 cap2 (E2) (litV f.v) rfl HBY.out rfl (by omega) (by have := HTU.out.size; omega) ?_)
          intro ad3 cap3 E3 w11 hE3 hbyw11 hgw11
          replace HT := hide (tabAt_bytes HT.out HBY.out hgw11); replace HTU := hide (grown_turn HTU.out HBY.out (Nat.le_refl _) hgw11); replace HBY := hide hbyw11
          clear hbyw11 hgw11
          have hEz3 : E3.size ≤ 10418 := by rw [hE3, ba_size_append]; omega
          have HE3 := hide hE3
          clear hE3
          clear c0 c1
          have c0 := (HTU.out.cell b (o + k * 2) hbb (by omega)).trans C0.out
          have c1 := (HTU.out.cell b (o + k * 2 + 1) hbb (by omega)).trans C1.out
          go_wp2_with fail
          refine (note1 g base room N f _ HT.out HALN.out hfk hr0 (by omega) (by have := HTU.out.size; omega)).mono ?_; rintro x w12 ⟨rfl, hT12, ht12⟩
          have HT12 := hide hT12
          replace HBY : Hid (BytesAt w12 _ _ _ _) := hide (owns_turn HBY.out ht12 (fun q hq => by have := (HBY.out.lt q hq).1; omega))
          replace HTU := hide (HTU.out.trans ht12)
          clear hT12 ht12 HT c0 c1
          have HT := HT12
          go_wp2_with fail
          go_roundw
          case rel =>
            refine ⟨k + 1, ad3, cap3, by go_num, by omega, ?_⟩
            rw [HTK.out.1, HTK.out.2, ← HEF.out]
            have q : es ++ (preV 0 6 64 ++ (litV f.n ++ litV f.v)) = E3 := by rw [HE3.out, HE2.out, HE1.out]; simp [ba_append_assoc]
            dsimp only; rw [if_pos trivial, q]
            exact ⟨rfl, HBY.out, HT.out, HTU.out⟩
          case measure => simp [intOf]; omega
        · have hn1 : (n == 0) = false := by simp [hn0]
          have c0 := (HTU.out.cell b (o + k * 2) hbb (by omega)).trans C0.out
          have c1 := (HTU.out.cell b (o + k * 2 + 1) hbb (by omega)).trans C1.out
          go_wp2_with fail
          refine (specLiteral f.v _ m2).mono ?_; rintro x w10 ⟨rfl, hbw10⟩
          replace HBY := hide (bytes_later HBY.out hbw10); replace HT := hide (tabAt_later HT.out hbw10); replace HTU := hide (HTU.out.trans (turn_new hbw10 _ _))
          clear hbw10
          go_wp2_with (at_builtin; refine wpList_str _ rfl _ _ rfl w.heap.size ad1 cap1 (E1) (litV f.v) rfl HBY.out rfl (by omega) (by have := HTU.out.size; omega) ?_)
          intro ad2 cap2 E2 w11 hE2 hbyw11 hgw11
          replace HT := hide (tabAt_bytes HT.out HBY.out hgw11); replace HTU := hide (grown_turn HTU.out HBY.out (Nat.le_refl _) hgw11); replace HBY := hide hbyw11
          clear hbyw11 hgw11
          have hEz2 : E2.size ≤ 10212 := by rw [hE2, ba_size_append]; omega
          have HE2 := hide hE2
          clear hE2
          clear c0 c1
          have c0 := (HTU.out.cell b (o + k * 2) hbb (by omega)).trans C0.out
          have c1 := (HTU.out.cell b (o + k * 2 + 1) hbb (by omega)).trans C1.out
          go_wp2_with fail
          refine (note1 g base room N f _ HT.out HALN.out hfk hr0 (by omega) (by have := HTU.out.size; omega)).mono ?_; rintro x w12 ⟨rfl, hT12, ht12⟩
          have HT12 := hide hT12
          replace HBY : Hid (BytesAt w12 _ _ _ _) := hide (owns_turn HBY.out ht12 (fun q hq => by have := (HBY.out.lt q hq).1; omega))
          replace HTU := hide (HTU.out.trans ht12)
          clear hT12 ht12 HT c0 c1
          have HT := HT12
          go_wp2_with fail
          go_roundw
          case rel =>
            refine ⟨k + 1, ad2, cap2, by go_num, by omega, ?_⟩
            rw [HTK.out.1, HTK.out.2, ← HEF.out]
            have q : es ++ (preV n 6 64 ++ ((if n = 0 then litV f.n else ⟨#[]⟩) ++ litV f.v)) = E2 := by rw [HE2.out, HE1.out]; simp [hn0, ba_nil_append, ba_append_assoc]
            dsimp only; rw [q]
            exact ⟨rfl, HBY.out, HT.out, HTU.out⟩
          case measure => simp [intOf]; omega
      · have HEF : Hid ((preV n 7 128, N) = F) := by show _ = _; simpa using HEE.out
        clear HEE
        have ok7 := okP_7 n0 nb
        have p1 := preV_small n 7 128
        go_wp2_with fail
        refine (specL3 n 7 128 _ n0 (by omega) (by omega) (by omega) (by omega) (by simp [pw])).mono ?_; rw [pre_is ok7]; rintro x w6 ⟨rfl, hbw6⟩
        replace HBY := hide (bytes_later HBY.out hbw6); replace HT := hide (tabAt_later HT.out hbw6); replace HTU := hide (HTU.out.trans (turn_new hbw6 _ _))
        clear hbw6
        go_wp2_with (at_builtin; refine wpList_str _ rfl _ _ rfl w.heap.size ad0 cap0 (es) (preV n 7 128) rfl HBY.out rfl (by omega) (by have := HTU.out.size; omega) ?_)
        intro ad1 cap1 E1 w7 hE1 hbyw7 hgw7
        replace HT := hide (tabAt_bytes HT.out HBY.out hgw7); replace HTU := hide (grown_turn HTU.out HBY.out (Nat.le_refl _) hgw7); replace HBY := hide hbyw7
        clear hbyw7 hgw7
        have hEz1 : E1.size ≤ 10006 := by rw [hE1, ba_size_append]; omega
        have HE1 := hide hE1
        clear hE1
        go_wp2_with fail
        go_roundw
        case rel =>
          refine ⟨k + 1, ad1, cap1, by go_num, by omega, ?_⟩
          rw [HTK.out.1, HTK.out.2, ← HEF.out]
          dsimp only; rw [← HE1.out]
          exact ⟨rfl, HBY.out, HT.out, HTU.out⟩
        case measure => simp [intOf]; omega
    · obtain rfl : k = l.length := by omega
      rw [List.take_length] at hby0 ht0 ⊢
      have hcv := bytes_string hby0
      have HT := hide ht0; have HTU := hide htu
      clear ht0 htu
      go_wp2_with fail
      go_ret
      exact ⟨rfl, HT.out, HTU.out⟩
end Go.Proofs.YtllaeakeaabiaaaGreat
/- The model's Encoded. -/
namespace Go.Proofs.YtllaeakeaabiaaaGreat
open Go.RowKit
set_option maxRecDepth 100000
set_option linter.unusedSimpArgs false
set_option linter.unusedVariables false

end Go.Proofs.YtllaeakeaabiaaaGreat
