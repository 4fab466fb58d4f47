/- Several small texts of one level, one behind the other. -/
import Derived.Test.YtejmnkabmajebaaQG2
import Derived.Handy
import Derived.Lib.SmallJoins
import Derived.Laws.AppendOwn
import Derived.Laws.IdiomStrings
import Derived.Lib.BufferRead
import Derived.Deep.AppendLies
import Derived.Maps.AppendAt
import Derived.WalkKit
import Derived.ProofKit
import Derived.OpenShut
import Derived.ShutString
import Derived.ChangeOld
import Derived.Below
import Derived.Test.YtejmnkabmajebaaQG1
import Derived.Laws.Tables
import Derived.Laws.Rows
import Derived.Deep.WholeRow
/- A text that is drawn: some bytes, no more than asked for; of what was there the cursor alone has moved. -/
namespace Go.Proofs.Ytejmnkabmajebaa
open Go.RowKit
set_option maxRecDepth 100000
set_option linter.unusedSimpArgs false
set_option linter.unusedVariables false

/-- A byte's value. -/
def ByteVal (v : Value) : Prop := ∃ z : Int, v = .int .u8 z ∧ 0 ≤ z ∧ z ≤ 255

theorem ownsRow_moves {w w' : World} {g base n size : Nat} {e : TypeId} {v : Value} {xs : List Value} (h : w.ownsRow base e size v n xs) (hm : Moves g w w') (hg : g < base) : w'.ownsRow base e size v n xs := by
  obtain ⟨h1, h2⟩ := h
  refine ⟨h1, ?_⟩
  rcases h2 with h2 | ⟨b, cap, cur, e1, e2, e3, e4⟩
  · exact .inl h2
  · refine .inr ⟨b, cap, cur, e1, e2, ?_, e4⟩
    rw [hm.block b (Array.getElem?_eq_some_iff.1 e3).1 (by omega)]
    exact e3

theorem Moves.grown {g : Nat} {w a b : World} {row : Option Nat} (h : Moves g w a) (hg : a.grownBy b row) (hr : ∀ k, row = some k → w.heap.size ≤ k) : Moves g w b :=
  ⟨hg.os.trans h.os, hg.tape.trans h.tape, hg.output.trans h.output, Nat.le_trans h.size hg.size, fun k hk hne => (hg.block k (Nat.lt_of_lt_of_le hk h.size) (fun e => by have := hr k e.symm; omega)).trans (h.block k hk hne)⟩

theorem Cur.grown {w w' : World} {g B : Nat} {row : Option Nat} (h : Cur w g B) (hg : w.grownBy w' row) (hr : ∀ k, row = some k → g < k) : Cur w' g B :=
  h.kept ⟨hg.os, hg.tape, hg.output, hg.size, fun k hk => hg.block k (by have := h.lt; omega) (fun e => by have := hr k e.symm; omega)⟩

theorem bytes_list : ∀ (xs : List Value), (∀ v ∈ xs, ByteVal v) → ∃ l : List UInt8, l.length = xs.length ∧ ∀ j (hj : j < l.length), xs[j]? = some (.int .u8 (l[j].toNat : Int))
  | [], _ => ⟨[], rfl, fun j hj => by simp at hj⟩
  | v :: xs, h => by
    obtain ⟨l, hl, hj⟩ := bytes_list xs (fun u hu => h u (List.mem_cons_of_mem _ hu))
    obtain ⟨z, rfl, z0, z1⟩ := h v List.mem_cons_self
    refine ⟨UInt8.ofNat z.toNat :: l, by simp [hl], fun j hjj => ?_⟩
    cases j with
    | zero =>
      have : ((UInt8.ofNat z.toNat).toNat : Int) = z := by simp [UInt8.toNat_ofNat']; omega
      show some (Value.int .u8 z) = some (Value.int .u8 ((UInt8.ofNat z.toNat).toNat : Int))
      rw [this]
    | succ k =>
      have := hj k (by simpa using hjj)
      simpa using this

theorem row_to_string {W : World} {base n : Nat} {v : Value} {xs : List Value} (hown : W.ownsRow base 5 1 v n xs) (hx : ∀ u ∈ xs, ByteVal u) :
    ∃ s : ByteArray, s.size = n ∧ (convert 22 9 v).run Try.prog W = .ok (.string s) W := by
  obtain ⟨h1, h2⟩ := hown
  rcases h2 with ⟨rfl, rfl⟩ | ⟨b, cap, cur, rfl, e2, e3, e4, e5, e6, e7⟩
  · exact ⟨⟨#[]⟩, rfl, by simpa using Lib.run_convert_nil_bytes (P := Try.prog) W 22 9 5 0 Try.underlying22 Try.underlying5 Try.underlying9⟩
  · obtain ⟨l, hl, hj⟩ := bytes_list xs hx
    have hn : l.length = n := by omega
    refine ⟨⟨l.toArray⟩, by simp [ByteArray.size, hn], ?_⟩
    have := run_convert_bytes_back (P := Try.prog) W 22 9 5 ⟨b, 0, none⟩ cap l Try.underlying22 Try.underlying5 Try.underlying9 (fun j hjl => by
      have h5 := hj j hjl
      have h6 : W.cell? ((⟨b, 0, none⟩ : Addr).add j) = cur[j]? := by by_cases hj0 : j = 0 <;> simp [Addr.add, World.cell?, e3, hj0]
      rw [h6, ← Array.getElem?_toList, ← h5, ← e7, List.getElem?_take_of_lt (by omega)])
    rw [hn] at this
    exact this

theorem ownsRow_set {W : World} {base b n cap t : Nat} {e : TypeId} {xs : List Value} (h : W.ownsRow base e 1 (.slice (some ⟨b, 0, none⟩) n cap) n xs) (u : Value) :
    (W.setCell ⟨b, t, none⟩ u).ownsRow base e 1 (.slice (some ⟨b, 0, none⟩) n cap) n (xs.set t u) := by
  obtain ⟨h1, h2⟩ := h
  refine ⟨by simpa using h1, ?_⟩
  rcases h2 with ⟨h2, _⟩ | ⟨b', cap', cur, e1, e2, e3, e4, e5, e6, e7⟩
  · cases h2
  · simp only [Value.slice.injEq, Option.some.injEq, Addr.mk.injEq, and_true, true_and] at e1
    obtain ⟨rfl, rfl⟩ := e1
    refine .inr ⟨b, cap, cur.setIfInBounds t u, rfl, e2, Joins.block_setCell e3 u, e4, e5, by simpa using e6, ?_⟩
    rw [Array.toList_setIfInBounds, List.take_set, e7]

theorem ownsRow_at {W : World} {base b n cap t : Nat} {e : TypeId} {xs : List Value} (h : W.ownsRow base e 1 (.slice (some ⟨b, 0, none⟩) n cap) n xs) (ht : t < n) :
    (∃ u, W.cell? ⟨b, t, none⟩ = some u) ∧ W.frozen? ⟨b, t, none⟩ = false ∧ base ≤ b ∧ n ≤ cap ∧ b < W.heap.size := by
  obtain ⟨h1, h2⟩ := h
  rcases h2 with ⟨h2, _⟩ | ⟨b', cap', cur, e1, e2, e3, e4, e5, e6, e7⟩
  · cases h2
  · simp only [Value.slice.injEq, Option.some.injEq, Addr.mk.injEq, and_true, true_and] at e1
    obtain ⟨rfl, rfl⟩ := e1
    have hlt : t < cur.size := by omega
    exact ⟨⟨cur[t], by rw [Joins.cell_of_block e3, Array.getElem?_eq_getElem hlt]⟩, Joins.unfrozen_of_block e3 t, e2, e4, (Array.getElem?_eq_some_iff.1 e3).1⟩

theorem mem_set_byte {xs : List Value} (hx : ∀ u ∈ xs, ByteVal u) (t : Nat) (u : Value) (hu : ByteVal u) : ∀ v ∈ xs.set t u, ByteVal v := by
  intro v hv
  rcases List.mem_or_eq_of_mem_set hv with h | h
  · exact hx v h
  · rw [h]; exact hu

theorem mem_append_byte {xs : List Value} (hx : ∀ u ∈ xs, ByteVal u) (u : Value) (hu : ByteVal u) : ∀ v ∈ xs ++ [u], ByteVal v := by
  intro v hv
  rcases List.mem_append.1 hv with h | h
  · exact hx v h
  · simp at h; rw [h]; exact hu

set_option maxHeartbeats 1000000 in
set_option maxRecDepth 100000 in
theorem text1 (g B : Nat) (most : Int) (w : World) (hc : Cur w g B) (h0 : 0 ≤ most) (h1 : most ≤ 1000) :
    Calls Try.prog 83 #[.pointer (some ⟨g, 0, none⟩), .int .i64 most] w fun e w' => ∃ s : ByteArray, (s.size : Int) ≤ most ∧ e = .returned (.string s) ∧ Cur w' g B ∧ Moves g w w' := by
  have hgw := hc.lt
  obtain ⟨i0, hi, hz0, hz1, hz2⟩ := info_parts (P := Try.prog) (e := 5) (z := .int .u8 0) (size := 1) (bytes := 1) (by kernel_rfl)
  go_enter Try.func83, Try.ntmps83
  go_wp2_with fail
  refine (below1 g B (most + 1) _ (hc.alloc _) (by omega)).mono ?_; rintro e w1 ⟨x, x0, x1, x2, rfl, hc1, hm1⟩
  have hs1 := hm1.size
  simp at hs1
  have hm1' : Moves g w w1 := ((Moves.refl g w).alloc _).trans hm1
  have ho1 : w1.ownsRow w.heap.size 5 1 (.slice (some ⟨w.heap.size, 0, none⟩) 0 0) 0 [] := ownsRow_moves (World.ownsRow_made w #[] 0 (Nat.le_refl _) (Nat.zero_le _) rfl) hm1 hgw
  go_wp2_with fail
  go_loopw [5, 6] (fun v n wr => ∃ (m : Nat) (xs : List Value), n = .int .i64 m ∧ ((m + xs.length : Nat) : Int) ≤ most ∧ (∀ u ∈ xs, ByteVal u) ∧ wr.ownsRow w.heap.size 5 1 v xs.length xs ∧ Cur wr g B ∧ Moves g w wr) (fun _ n _ => (intOf n).toNat)
  case atStart =>
    obtain ⟨m, rfl⟩ : ∃ m : Nat, x = m := ⟨x.toNat, by omega⟩
    exact ⟨m, [], rfl, by simp; omega, fun u hu => by simp at hu, ho1, hc1, hm1'⟩
  case round =>
    obtain ⟨m, xs, rfl, hmx, hx, hown, hcr, hmr⟩ := hrel
    have hsr := hmr.size
    by_cases hm : 0 < m
    · obtain ⟨m', rfl⟩ : ∃ m', m = m' + 1 := ⟨m - 1, by omega⟩
      go_wp2_with fail
      refine (below1 g B 4 _ hcr (by omega)).mono ?_; rintro e w2 ⟨y, y0, y1, y2, rfl, hc2, hm2⟩
      have y4 : y < 4 := y1 (by omega)
      have hs2 := hm2.size
      have hown2 := (ownsRow_moves hown hm2 hgw).alloc (.cells #[.int .u8 (97 + y)] 5)
      have hlen : xs.length + 1 ≤ 1000 := by simp at hmx; omega
      go_wp2_with (at_builtin; refine wpList_append_own _ rfl _ _ 22 rfl w.heap.size 5 i0 (.int .u8 0) 1 1 Try.underlying22 hi hz0 hz1 hz2 rfl (by decide) _ _ _ rfl hown2 ⟨w2.heap.size, 0, none⟩ 1 1 [.int .u8 (97 + y)] rfl rfl ?c1 ?c2 ?c3 ?c4 ?c5 ?_)
      case c1 =>
        intro j u hj
        match j, hj with
        | 0, hj => simp at hj; subst hj; simp [Addr.add]
      case c2 => intro u hu; simp at hu; subst hu; rfl
      case c3 => unfold maxLen; omega
      case c4 => omega
      case c5 => simp; omega
      intro v' w3 hown3 hgrow _
      have hrow : ∀ k, u5.ownBlock = some k → w.heap.size ≤ k := fun k hk => (hown2.lt k hk).1
      have hc3 : Cur w3 g B := (hc2.alloc _).grown hgrow (fun k hk => by have := hrow k hk; omega)
      have hm3 : Moves g w w3 := ((hmr.trans hm2).alloc _).grown hgrow hrow
      have HX : Hid (∀ u ∈ xs ++ [Value.int .u8 (97 + y)], ByteVal u) := mem_append_byte hx _ ⟨97 + y, rfl, by omega, by omega⟩
      have HO : Hid (w3.ownsRow w.heap.size 5 1 v' (xs ++ [Value.int .u8 (97 + y)]).length (xs ++ [Value.int .u8 (97 + y)])) := by show World.ownsRow _ _ _ _ _ _ _; simpa using hown3
      clear hown3 hown2 hown hx
      go_wp2_with fail
      go_roundw
      case rel => exact ⟨m', _, by go_num, by simp at hmx ⊢; omega, HX.out, HO.out, hc3, hm3⟩
      case measure => simp [intOf]
    · obtain rfl : m = 0 := by omega
      go_wp2_with fail
      refine (once1 g B 7 _ hcr (by omega)).mono ?_; rintro e w2 ⟨v, rfl, hc2, hm2⟩
      have hown2 := ownsRow_moves hown hm2 hgw
      have hmw : Moves g w w2 := hmr.trans hm2
      have hxl : (xs.length : Int) ≤ most := by simp at hmx; exact hmx
      have hs2 := hmw.size
      obtain ⟨s, hss, hcv⟩ := row_to_string hown2 hx
      rcases Joins.ownsRow_forms hown2 with ⟨rfl, hn⟩ | ⟨gb, cap, rfl⟩
      · cases v
        · go_wp2_with fail
          go_ret
          exact ⟨s, by omega, rfl, hc2, hmw⟩
        · go_wp2_with fail
          go_ret
          exact ⟨s, by omega, rfl, hc2, hmw⟩
      · cases v
        · go_wp2_with fail
          go_ret
          exact ⟨s, by omega, rfl, hc2, hmw⟩
        · by_cases hn : ¬ 0 < xs.length
          · have hn' : ¬ (0 : Int) < (xs.length : Int) := by omega
            go_wp2_with fail
            go_ret
            exact ⟨s, by omega, rfl, hc2, hmw⟩
          · have hn' : (0 : Int) < (xs.length : Int) := by omega
            go_wp2_with fail
            refine (below1 g B _ _ hc2 (by omega)).mono ?_; rintro e w3 ⟨t, t0, t1, t2, rfl, hc3, hm3⟩
            obtain ⟨t, rfl⟩ : ∃ t' : Nat, t = t' := ⟨t.toNat, by omega⟩
            have tl : (t : Int) < xs.length := t1 hn'
            go_wp2_with fail
            refine (byte1 g B _ hc3).mono ?_; rintro e w4 ⟨y, y0, y1, rfl, hc4, hm4⟩
            have hown4 := ownsRow_moves (ownsRow_moves hown2 hm3 hgw) hm4 hgw
            obtain ⟨⟨u, hcu⟩, hfu, hgb, hcap, hlt⟩ := ownsRow_at (t := t) hown4 (by omega)
            obtain ⟨s', hss', hcv'⟩ := row_to_string (ownsRow_set (t := t) hown4 (.int .u8 y)) (mem_set_byte hx t _ ⟨y, rfl, y0, y1⟩)
            have hm5 : Moves g w (w4.setCell ⟨gb, t, none⟩ (.int .u8 y)) := ((hmw.trans hm3).trans hm4).setNew _ hgb _
            have hc5 := hc4.set ⟨gb, t, none⟩ (.int .u8 y) (by simp; omega)
            clear hown hown2 hown4 hx
            go_wp2_with fail
            go_ret
            exact ⟨s', by omega, rfl, hc5, hm5⟩
end Go.Proofs.Ytejmnkabmajebaa
/- append of a row onto a row that is owned, whatever slice the row to be appended is (nil, empty, in the midst of a block): at the run, at an operation, at a step of a region that draws. -/
namespace Go.Proofs.Ytejmnkabmajebaa
open Go.RowKit
set_option maxRecDepth 100000
set_option linter.unusedSimpArgs false
set_option linter.unusedVariables false

section
variable (w : World)
theorem run_app (t ty e : TypeId) (z : Value) (size bytes : Nat) (ht : Try.prog.underlying t = some (.slice e)) (hinf : ((Try.prog.info? e).map fun i => (i.zero, i.size, i.bytes)) = some (some z, size, bytes)) (hzs : z.cells.size = size) (hsz : 0 < size)
    (base : Nat) (v : Value) (n : Nat) (xs : List Value) (hown : w.ownsRow base e size v n xs) (u : Value) (m : Nat) (news : List Value) (hr : Reads w u m size news) (h1 : ∀ u ∈ news, u.oneCell' = true)
    (hnm : n + m ≤ 2097152) (hby : bytes ≤ 1000) (hbase : base ≤ w.heap.size) :
    ∃ v' w', (Builtin.append_ #[t, t] ty #[v, u]).run Try.prog w = .ok v' w' ∧ w'.ownsRow base e size v' (n + m) (xs ++ news) ∧ w.grownBy w' v.ownBlock ∧ (v'.ownBlock = v.ownBlock ∨ v'.ownBlock = some w.heap.size) := by
  obtain ⟨i, hi, hz, hs, hb⟩ := info_parts (P := Try.prog) (e := e) (z := z) (size := size) (bytes := bytes) hinf
  obtain ⟨hl, ad, cap, rfl, h2, h3, h4⟩ := hr
  have hbytes : (n + m) * bytes ≤ 140737488355328 := by
    have := Nat.mul_le_mul hnm hby
    omega
  cases ad with
  | some a =>
    obtain ⟨v', w', hrun, ho, hg, _, hat⟩ := run_append_own_at (P := Try.prog) w base t ty e i z size bytes ht hi hz hs hb hzs hsz v n xs hown a m cap news hl (fun j x hj => by
      have hm : 0 < m := by
        rcases Nat.eq_zero_or_pos m with h0 | h0
        · subst h0; simp at hl; subst hl; simp at hj
        · exact h0
      obtain ⟨b, o, e1, _, hc⟩ := h4 hm
      simp only [Option.some.injEq] at e1
      subst e1
      have := hc j x hj
      have ha : (⟨b, o, none⟩ : Addr).add j = ⟨b, o + j, none⟩ := by unfold Addr.add; split <;> simp_all
      rw [ha]; exact this) h1 (by unfold maxLen; omega) hbytes hbase
    exact ⟨v', w', hrun, ho, hg, hat⟩
  | none =>
    have hm : m = 0 := by
      rcases Nat.eq_zero_or_pos m with h0 | h0
      · exact h0
      · obtain ⟨b, o, e1, _⟩ := h4 h0; cases e1
    subst hm
    simp at hl
    subst hl
    obtain ⟨ad0, cap0, rfl, g1, g2⟩ := owns_form hown
    refine ⟨.slice ad0 n cap0, w, ?_, by simpa using hown, gb_refl _ _, .inl rfl⟩
    cases ad0 with
    | none => simp [Builtin.append_, run_underlying ht, sizeOf, typeInfo, hi, Builtin.lenOf, g1, Builtin.firstCells]
    | some a0 => simp [Builtin.append_, run_underlying ht, sizeOf, typeInfo, hi, Builtin.lenOf, g1, Builtin.firstCells, storeCells]

theorem wp_app {o : Oper} {a : Act} {K : Act → World → Prop} {Q : Exit → Act → World → Prop} (s x : Operand) (t : TypeId) (ho : o.op = .call { callee := .builtin .append, args := #[s, x], argTypes := #[t, t] })
    (e : TypeId) (z : Value) (size bytes : Nat) (ht : Try.prog.underlying t = some (.slice e)) (hinf : ((Try.prog.info? e).map fun i => (i.zero, i.size, i.bytes)) = some (some z, size, bytes)) (hzs : z.cells.size = size) (hsz : 0 < size)
    (base : Nat) (v : Value) (n : Nat) (xs : List Value) (hs : a.eval s = v) (hown : w.ownsRow base e size v n xs) (u : Value) (m : Nat) (news : List Value) (hx : a.eval x = u) (hr : Reads w u m size news) (h1 : ∀ u ∈ news, u.oneCell' = true)
    (hnm : n + m ≤ 2097152) (hby : bytes ≤ 1000) (hbase : base ≤ w.heap.size)
    (h : ∀ ad cap w', w'.ownsRow base e size (.slice ad (n + m) cap) (n + m) (xs ++ news) → w.grownBy w' v.ownBlock → ((Value.slice ad (n + m) cap).ownBlock = v.ownBlock ∨ (Value.slice ad (n + m) cap).ownBlock = some w.heap.size) → K (a.put o.dst (.slice ad (n + m) cap)) w') : o.wp Try.prog a w K Q := by
  obtain ⟨v', w', hrun, h2, h3, h4⟩ := run_app w t o.type e z size bytes ht hinf hzs hsz base v n xs hown u m news hr h1 hnm hby hbase
  obtain ⟨ad, cap, rfl, _⟩ := owns_form h2
  unfold Oper.wp execOp
  simp only [ho, resolve, invoke, builtin, Sem.run_bind, Sem.run_pure, Result.andThen_ok, List.map_toArray, List.map_cons, List.map_nil, hs, hx, hrun]
  exact h ad cap w' h2 h3 h4

theorem wpList_app {ops : Array Oper} {rest : List Oper} {o : Oper} {a : Act} {Q : Exit → Act → World → Prop} (hgd : o.guard = none) (s x : Operand) (t : TypeId) (ho : o.op = .call { callee := .builtin .append, args := #[s, x], argTypes := #[t, t] })
    (e : TypeId) (z : Value) (size bytes : Nat) (ht : Try.prog.underlying t = some (.slice e)) (hinf : ((Try.prog.info? e).map fun i => (i.zero, i.size, i.bytes)) = some (some z, size, bytes)) (hzs : z.cells.size = size) (hsz : 0 < size)
    (base : Nat) (v : Value) (n : Nat) (xs : List Value) (hs : a.eval s = v) (hown : w.ownsRow base e size v n xs) (u : Value) (m : Nat) (news : List Value) (hx : a.eval x = u) (hr : Reads w u m size news) (h1 : ∀ u ∈ news, u.oneCell' = true)
    (hnm : n + m ≤ 2097152) (hby : bytes ≤ 1000) (hbase : base ≤ w.heap.size)
    (h : ∀ ad cap w', w'.ownsRow base e size (.slice ad (n + m) cap) (n + m) (xs ++ news) → w.grownBy w' v.ownBlock → ((Value.slice ad (n + m) cap).ownBlock = v.ownBlock ∨ (Value.slice ad (n + m) cap).ownBlock = some w.heap.size) → wpList Try.prog ops Q rest (a.put o.dst (.slice ad (n + m) cap)) w') : wpList Try.prog ops Q (o :: rest) a w :=
  wpList_plain hgd fun _ hK => wp_app w s x t ho e z size bytes ht hinf hzs hsz base v n xs hs hown u m news hx hr h1 hnm hby hbase fun ad cap w' h2 h3 h4 => hK _ _ (h ad cap w' h2 h3 h4)

theorem step_app {ops : Array Oper} {o : Oper} {a : Act} {K : Act → World → Prop} {Q : Exit → Act → World → Prop} {E : Prop} (hgd : o.guard = none) (s x : Operand) (t : TypeId) (ho : o.op = .call { callee := .builtin .append, args := #[s, x], argTypes := #[t, t] })
    (e : TypeId) (z : Value) (size bytes : Nat) (ht : Try.prog.underlying t = some (.slice e)) (hinf : ((Try.prog.info? e).map fun i => (i.zero, i.size, i.bytes)) = some (some z, size, bytes)) (hzs : z.cells.size = size) (hsz : 0 < size)
    (base : Nat) (v : Value) (n : Nat) (xs : List Value) (hs : a.eval s = v) (hown : w.ownsRow base e size v n xs) (u : Value) (m : Nat) (news : List Value) (hx : a.eval x = u) (hr : Reads w u m size news) (h1 : ∀ u ∈ news, u.oneCell' = true)
    (hnm : n + m ≤ 2097152) (hby : bytes ≤ 1000) (hbase : base ≤ w.heap.size)
    (h : ∀ ad cap w', w'.ownsRow base e size (.slice ad (n + m) cap) (n + m) (xs ++ news) → w.grownBy w' v.ownBlock → ((Value.slice ad (n + m) cap).ownBlock = v.ownBlock ∨ (Value.slice ad (n + m) cap).ownBlock = some w.heap.size) → K (a.put o.dst (.slice ad (n + m) cap)) w') :
    if Region.wanted o (yielded ops a.tmps) = true then Oper.wp Try.prog o a w K Q else E := by
  have hw : Region.wanted o (yielded ops a.tmps) = true := by simp [Region.wanted, hgd]
  rw [if_pos hw]
  exact wp_app w s x t ho e z size bytes ht hinf hzs hsz base v n xs hs hown u m news hx hr h1 hnm hby hbase h
end
/-- What append(nil, ..) made is new. -/
theorem below_grown {a b : World} (h : a.grownBy b none) : Below a.heap.size a b := ⟨h.os, h.tape, h.output, h.size, fun k hk => h.block k hk (by simp)⟩
end Go.Proofs.Ytejmnkabmajebaa
/- The bytes that a property law is given: what their slice is, and when there are too many. For every chapter's property laws. -/
namespace Go.Proofs.Ytejmnkabmajebaa
open Go.RowKit
set_option maxRecDepth 100000
set_option linter.unusedVariables false
set_option linter.unusedSimpArgs false

theorem big1 (a : Option Addr) (len cap : Nat) (w : World) : Calls Try.prog 9 #[.slice a len cap] w fun x w' => x = .returned (.bool (decide ((4096 : Int) < len))) ∧ w' = w := by
  go_enter Try.func9, Try.ntmps9
  go_wp2
  go_ret
  exact ⟨rfl, rfl⟩
theorem CodeAt.wider {w : World} {a : Option Addr} {len B B' : Nat} (h : CodeAt w a len B) (hb : B ≤ B') : CodeAt w a len B' := fun j hj => by
  obtain ⟨b, o, z, h1, h2, h3⟩ := h j hj
  exact ⟨b, o, z, h1, by omega, h3⟩
theorem CodeAt.behind {w w' : World} {a : Option Addr} {len : Nat} (h : CodeAt w a len w.heap.size) (hb : Below w.heap.size w w') : CodeAt w' a len w'.heap.size := (h.kept hb).wider hb.size

open Go.ChangeShapes Go.WideShapes Go.ChangeAt Go.Joins
open Go.ChangeMaps (open_string shut_string)

theorem open_code {H : Type} {enc : TypeId × Value → H} {W : World} {a : Option Addr} {len cap : Nat} {d : DataW H} {p : List MemPlace}
    (h : DataW.Trod enc Try.prog W 0 (fun _ => true) true 22 (.slice a len cap) d p) : len ≤ maxLen ∧ CodeAt W a len W.heap.size := by
  obtain ⟨fuel, hf⟩ := h
  rcases open_ints Try.underlying22 Try.underlying5 (by kernel_rfl) hf with ⟨hcs, _⟩ | ⟨x, l, c, zs, hcs, _, hl, hm, hz, _, hcell, hwz⟩
  · simp [Value.cells] at hcs
    obtain ⟨rfl, rfl, rfl⟩ := hcs
    exact ⟨Nat.zero_le _, fun j hj => by omega⟩
  · simp [Value.cells] at hcs
    obtain ⟨rfl, rfl, rfl⟩ := hcs
    have hz' : zs.length = cap := by simpa using hz
    refine ⟨by omega, fun j hj => ?_⟩
    obtain ⟨b, o, sp⟩ := x
    have hc0 := hcell 0 (by omega)
    have hsp : sp = none := by simpa [Addr.add] using World.cell?_spot hc0
    subst hsp
    have hc := hcell j (by omega)
    have hr := range_u8 hwz j
    have hc' : W.cell? ⟨b, o + j, none⟩ = some (.int .u8 (zs.getD j 0)) := by
      by_cases h0 : j = 0
      · subst h0; simpa [Addr.add] using hc
      · simpa [Addr.add, h0] using hc
    refine ⟨b, o, zs.getD j 0, rfl, World.block_lt_of_cell? W _ hc', ?_, ?_, hc'⟩
    · rw [List.getD_eq_getElem?_getD]; exact hr.1
    · rw [List.getD_eq_getElem?_getD]; exact hr.2
end Go.Proofs.Ytejmnkabmajebaa
/- The small functions of chapter 3: what is in range, the lowest bits, and the first byte's high part, of the program and of the model. -/
namespace Go.Proofs.Ytejmnkabmajebaa
open Go.RowKit
set_option maxRecDepth 100000
set_option linter.unusedSimpArgs false
set_option linter.unusedVariables false

/-- 2 to the b. -/
def pw (b : Int) : Int := 2 ^ b.toNat
theorem bits8 {b : Int} (h1 : 1 ≤ b) (h8 : b ≤ 8) : b = 1 ∨ b = 2 ∨ b = 3 ∨ b = 4 ∨ b = 5 ∨ b = 6 ∨ b = 7 ∨ b = 8 := by omega
theorem pw_cases {b : Int} (h1 : 1 ≤ b) (h8 : b ≤ 8) : pw b = 2 ∨ pw b = 4 ∨ pw b = 8 ∨ pw b = 16 ∨ pw b = 32 ∨ pw b = 64 ∨ pw b = 128 ∨ pw b = 256 := by
  rcases bits8 h1 h8 with rfl | rfl | rfl | rfl | rfl | rfl | rfl | rfl <;> simp [pw]
theorem pw_lo {b : Int} (h1 : 1 ≤ b) (h8 : b ≤ 8) : 2 ≤ pw b ∧ pw b ≤ 256 := by have := pw_cases h1 h8; omega

theorem implPrefixBits (b : Int) (w : World) : Calls Try.prog 95 #[.int .i64 b] w fun e w' => e = .returned (.bool (inB b 1 8)) ∧ w' = w := by
  go_enter Try.func95, Try.ntmps95
  go_wp2_with (go_at_call 93; refine (implWithin _ _ _ _).mono ?_; rintro e w' ⟨rfl, rfl⟩)
  go_ret
  exact ⟨rfl, rfl⟩

theorem implLowest (b : Int) (w : World) (h1 : 1 ≤ b) (h8 : b ≤ 8) : Calls Try.prog 96 #[.int .i64 b] w fun e w' => e = .returned (.int .i64 (pw b - 1)) ∧ w' = w := by
  rcases bits8 h1 h8 with rfl | rfl | rfl | rfl | rfl | rfl | rfl | rfl
  all_goals
    go_enter Try.func96, Try.ntmps96
    go_wp2_with fail
    go_ret
    exact ⟨rfl, rfl⟩

/-- Are n and bits in range? -/
def okN (n b : Int) : Bool := decide (0 ≤ n ∧ n ≤ 268435456 ∧ 1 ≤ b ∧ b ≤ 8)
theorem okN_true {n b : Int} (h : okN n b = true) : 0 ≤ n ∧ n ≤ 268435456 ∧ 1 ≤ b ∧ b ≤ 8 := of_decide_eq_true h
theorem okN_false {n b : Int} (h : okN n b = false) : ¬ (0 ≤ n ∧ n ≤ 268435456 ∧ 1 ≤ b ∧ b ≤ 8) := of_decide_eq_false h
theorem okN_and (n b : Int) : okN n b = (inB n 0 268435456 && inB b 1 8) := by
  unfold okN inB
  by_cases h1 : 0 ≤ n <;> by_cases h2 : n ≤ 268435456 <;> by_cases h3 : 1 ≤ b <;> by_cases h4 : b ≤ 8 <;> simp [h1, h2, h3, h4]

theorem implPrefixable (n b : Int) (w : World) : Calls Try.prog 106 #[.int .i64 n, .int .i64 b] w fun e w' => e = .returned (.bool (okN n b)) ∧ w' = w := by
  rw [okN_and]
  cases h1 : inB n 0 268435456
  · go_enter Try.func106, Try.ntmps106
    go_wp2_with (first | (go_at_call 93; refine (implWithin _ _ _ _).mono ?_; rw [h1]; rintro e w' ⟨rfl, rfl⟩) | (go_at_call 95; refine (implPrefixBits _ _).mono ?_; rintro e w' ⟨rfl, rfl⟩))
    go_ret
    exact ⟨rfl, rfl⟩
  · go_enter Try.func106, Try.ntmps106
    go_wp2_with (first | (go_at_call 93; refine (implWithin _ _ _ _).mono ?_; rw [h1]; rintro e w' ⟨rfl, rfl⟩) | (go_at_call 95; refine (implPrefixBits _ _).mono ?_; rintro e w' ⟨rfl, rfl⟩))
    go_ret
    exact ⟨rfl, rfl⟩
end Go.Proofs.Ytejmnkabmajebaa
/- A row that make made. -/
namespace Go.Proofs.Ytejmnkabmajebaa
open Go.RowKit
set_option maxRecDepth 100000
set_option linter.unusedSimpArgs false
set_option linter.unusedVariables false

theorem make_row (t e : TypeId) (z : Value) (size bytes : Nat) (hu : Try.prog.underlying t = some (.slice e)) (hinf : ((Try.prog.info? e).map fun i => (i.zero, i.size, i.bytes)) = some (some z, size, bytes)) (hzs : z.cells.size = size) (hs : 0 < size) (hby : bytes ≤ 1000) (R : Nat) (h : R ≤ 1048576) :
    ∃ M : Array Value, M.size = R * size ∧ ∀ X : World, (Instr.makeSlice t (.int .i64 (R : Int)) (.int .i64 (R : Int))).run Try.prog X = .ok (.slice (some ⟨X.heap.size, 0, none⟩) R R) (X.alloc (.cells M e)) := by
  obtain ⟨i0, hi, hz0, hz1, hz2⟩ := info_parts (P := Try.prog) (e := e) (z := z) (size := size) (bytes := bytes) hinf
  refine ⟨madeCells z.cells (R * size), by rw [size_madeCells], fun X => ?_⟩
  have hb : R * bytes ≤ 1048576 * 1000 := Nat.mul_le_mul h hby
  have hb' : bytes * R ≤ 1048576 * 1000 := by rw [Nat.mul_comm]; exact hb
  have h := run_make (P := Try.prog) X t e i0 z hu hi hz0 .i64 .i64 (R : Int) (R : Int) (by omega) (by omega) (by rw [hz2]; first | omega | (rw [Nat.mul_comm]; omega)) (by omega)
  rw [hz1] at h
  simpa using h
theorem owns_made (w : World) (M : Array Value) (e : TypeId) (size R : Nat) (h : M.size = R * size) (hR : R ≤ 1048576) : (w.alloc (.cells M e)).ownsRow w.heap.size e size (.slice (some ⟨w.heap.size, 0, none⟩) R R) R M.toList :=
  ⟨by simp [h], .inr ⟨w.heap.size, R, M, rfl, Nat.le_refl _, heap_alloc_new w _, Nat.le_refl _, by unfold maxLen; omega, h, by rw [← h, ← Array.length_toList, List.take_length]⟩⟩
end Go.Proofs.Ytejmnkabmajebaa
/- The marks that the laws write into texts. -/
namespace Go.Proofs.Ytejmnkabmajebaa
open Go.RowKit
set_option maxRecDepth 100000
set_option linter.unusedSimpArgs false
set_option linter.unusedVariables false

def mtF : Nat → Nat → ByteArray → ByteArray
  | 0, _, acc => acc
  | n + 1, k, acc => if k = 0 then acc else mtF n (k / 10) (strOf [48 + ((k % 10 : Nat) : Int)] ++ acc)
theorem mtF_zero (n : Nat) (acc : ByteArray) : mtF n 0 acc = acc := by cases n <;> simp [mtF]
theorem mtF_step {n k : Nat} (h : 0 < k) (hn : k ≤ n) (acc : ByteArray) : ∃ n', k / 10 ≤ n' ∧ mtF n k acc = mtF n' (k / 10) (strOf [48 + ((k % 10 : Nat) : Int)] ++ acc) := by
  cases n with
  | zero => omega
  | succ n => exact ⟨n, by omega, by simp [mtF, Nat.pos_iff_ne_zero.1 h]⟩
/-- What markText answers at k. -/
def mtx (k : Nat) : ByteArray := if k = 0 then ⟨#[109, 48]⟩ else ⟨#[109]⟩ ++ mtF k k ⟨#[]⟩

set_option maxHeartbeats 1000000 in
theorem markTx (k : Nat) (w : World) (hk : k ≤ 1000000000) :
    Calls Try.prog 60 #[.int .i64 k] w fun x w' => x = .returned (.string (mtx k)) ∧ Below w.heap.size w w' := by
  by_cases h0 : k = 0
  · subst h0
    go_enter Try.func60, Try.ntmps60
    go_wp2_with fail
    go_ret
    exact ⟨rfl, (by repeat' (first | (with_reducible exact Below.refl _ _) | (with_reducible refine Below.drew ?_) | (with_reducible refine bo_drewN _ ?_) | (with_reducible refine bo_alloc ?_ _) | (refine bchain ?_ (by with_reducible assumption)) | (with_reducible refine Below.setCell ?_ ?_ _) | go_size))⟩
  · obtain ⟨R, hR⟩ : ∃ R, R = mtF k k ⟨#[]⟩ := ⟨_, rfl⟩
    have hm : mtx k = ⟨#[109]⟩ ++ R := by simp [mtx, h0, hR]
    rw [hm]
    clear hm
    have HR0 : Hid _ := hR
    clear hR
    go_enter Try.func60, Try.ntmps60
    go_wp2_with fail
    go_loopw [0, 3] (fun kv ov wr => ∃ (j n : Nat) (acc : ByteArray), kv = .int .i64 j ∧ ov = .string acc ∧ j ≤ n ∧ j ≤ 1000000000 ∧ acc.size + j ≤ 2000000000 ∧ R = mtF n j acc ∧ Below w.heap.size w wr) (fun kv _ _ => (intOf kv).toNat)
    case atStart => exact ⟨k, k, ⟨#[]⟩, rfl, rfl, Nat.le_refl _, hk, by simp [ByteArray.size]; omega, HR0.out, Below.refl _ _⟩
    case round =>
      obtain ⟨j, n, acc, rfl, rfl, hjn, hj, hsz, hRj, hb⟩ := hrel
      by_cases hpos : 0 < j
      · obtain ⟨n', hn', he⟩ := mtF_step hpos hjn acc
        have HR := (show Hid _ from hRj.trans he)
        clear hRj he
        have hcv := row_string (l := [48 + ((j % 10 : Nat) : Int)]) (ownsRow_one wr 5 (Value.int .u8 (48 + ((j % 10 : Nat) : Int)))) (by intro x hx; simp at hx; omega)
        have hs1 := strOf_size [48 + ((j % 10 : Nat) : Int)]
        obtain ⟨d, hd⟩ : ∃ d : Int, d = 48 + ((j % 10 : Nat) : Int) := ⟨_, rfl⟩
        rw [← hd] at hcv hs1 HR
        have hd1 : (48 : Int) + (j : Int) % 10 = d := by omega
        obtain ⟨S, hS⟩ : ∃ S, S = strOf [d] := ⟨_, rfl⟩
        rw [← hS] at hcv hs1 HR
        simp only [List.length_singleton, List.map_cons, List.map_nil] at hs1 hcv
        have hz : ¬ 9223372036854775807 < S.size + acc.size := by omega
        clear hS hd HR0
        go_wp2_with fail
        exact ⟨⟨j / 10, n', _, by go_num, rfl, hn', by omega, by rw [ByteArray.size_append]; omega, HR.out, bo_alloc hb _⟩, by simp [intOf]; omega⟩
      · obtain rfl : j = 0 := by omega
        rw [mtF_zero] at hRj
        have hz : ¬ 9223372036854775807 < 1 + acc.size := by omega
        subst hRj
        clear HR0
        go_wp2_with fail
        go_ret
        exact ⟨rfl, hb⟩
end Go.Proofs.Ytejmnkabmajebaa
/- A block that holds a long row of cells: read, written and made as a whole, or cell by cell. -/
namespace Go.Proofs.Ytejmnkabmajebaa
open Go.RowKit
set_option maxRecDepth 100000
set_option linter.unusedSimpArgs false
set_option linter.unusedVariables false

def RowIs (w : World) (b : Nat) (ty : TypeId) (cs : List Value) : Prop := w.heap[b]? = some (.cells cs.toArray ty (0, 0))
theorem RowIs.lt {w : World} {b : Nat} {ty : TypeId} {cs : List Value} (h : RowIs w b ty cs) : b < w.heap.size := (Array.getElem?_eq_some_iff.1 h).1
theorem RowIs.cell {w : World} {b : Nat} {ty : TypeId} {cs : List Value} (h : RowIs w b ty cs) {j : Nat} {u : Value} (hu : cs[j]? = some u) : w.cell? ⟨b, j, none⟩ = some u := by
  rw [cell_of_row w b j cs.toArray ty (0, 0) h]; simpa using hu
theorem RowIs.frozen {w : World} {b : Nat} {ty : TypeId} {cs : List Value} (h : RowIs w b ty cs) (j : Nat) : w.frozen? ⟨b, j, none⟩ = false := by
  have h' : w.heap[b]? = some (.cells cs.toArray ty (0, 0)) := h
  simp [World.frozen?, h']
theorem RowIs.kept {w w' : World} {b : Nat} {ty : TypeId} {cs : List Value} (h : RowIs w b ty cs) (hk : w'.heap[b]? = w.heap[b]?) : RowIs w' b ty cs := hk.trans h
theorem RowIs.new {w w' : World} {b : Nat} {ty : TypeId} {cs : List Value} (h : RowIs w b ty cs) (hb : Below w.heap.size w w') : RowIs w' b ty cs := h.kept (hb.block b h.lt)
theorem RowIs.set {w : World} {b : Nat} {ty : TypeId} {cs : List Value} (h : RowIs w b ty cs) (j : Nat) (v : Value) : RowIs (w.setCell ⟨b, j, none⟩ v) b ty (cs.set j v) := by
  have h' : w.heap[b]? = some (.cells cs.toArray ty (0, 0)) := h
  unfold RowIs
  simp [World.setCell, Array.getElem?_modify, h']
theorem RowIs.alloc {w : World} {b : Nat} {ty : TypeId} {cs : List Value} (h : RowIs w b ty cs) (o : Obj) : RowIs (w.alloc o) b ty cs := h.new ((Below.refl _ _).alloc (Nat.le_refl _) _)
theorem RowIs.far {w : World} {b : Nat} {ty : TypeId} {cs : List Value} (h : RowIs w b ty cs) (p : Addr) (v : Value) (hp : p.block ≠ b) : RowIs (w.setCell p v) b ty cs := h.kept (Below.heap_setCell w p v b (fun e => hp e.symm))
theorem RowIs.drewN {w : World} {b : Nat} {ty : TypeId} {cs : List Value} (h : RowIs w b ty cs) (n : Nat) : RowIs (w.drewN n) b ty cs := h
theorem rowIs_new (w : World) (ty : TypeId) (cs : List Value) : RowIs (w.alloc (.cells cs.toArray ty)) w.heap.size ty cs := heap_alloc_last w _
theorem rowIs_setRow {w : World} {b : Nat} {ty : TypeId} {cs cs' : List Value} (h : RowIs w b ty cs) : RowIs (w.setRow b cs'.toArray) b ty cs' := setRow_heap w b cs.toArray cs'.toArray ty (0, 0) h
theorem setRow_other (w : World) (g : Nat) (cs : Array Value) (k : Nat) (h : k ≠ g) : (w.setRow g cs).heap[k]? = w.heap[k]? := by
  simp only [World.setRow, Array.getElem?_modify]
  rw [if_neg (fun e => h e.symm)]
theorem setRow_size (w : World) (g : Nat) (cs : Array Value) : (w.setRow g cs).heap.size = w.heap.size := by simp [World.setRow]
theorem below_setRow {B : Nat} {a b : World} (h : Below B a b) {g : Nat} (hg : B ≤ g) (cs : Array Value) : Below B a (b.setRow g cs) :=
  ⟨h.os, h.tape, h.output, by rw [setRow_size]; exact h.size, fun k hk => by rw [setRow_other _ _ _ _ (by omega)]; exact h.block k hk⟩
theorem Turn.setRow {lo hi : Nat} {a b : World} (h : Turn lo hi a b) {g : Nat} (cs : Array Value) (hg : (lo ≤ g ∧ g < hi) ∨ a.heap.size ≤ g) : Turn lo hi a (b.setRow g cs) :=
  ⟨h.os, h.tape, h.output, by rw [setRow_size]; exact h.size, fun k hk h' => by rw [setRow_other _ _ _ _ (by omega)]; exact h.block k hk h'⟩

section
variable {P : Program}
theorem wp_load_row {op : Oper} {a : Act} {w : World} {K : Act → World → Prop} {Q : Exit → Act → World → Prop} (ty : TypeId) (x : Operand) (ho : op.op = .load ty x)
    (b : Nat) (hx : a.eval x = .pointer (some ⟨b, 0, none⟩)) (cs : List Value) (d : TypeDesc) (t : TypeId) (hc : RowIs w b t cs)
    (hu : P.underlying ty = some d) (hd : (match d with | .struct _ | .array _ _ => true | _ => false) = true) (hi : (P.info? ty).map (·.size) = some cs.length)
    (h : K (a.put op.dst (.agg cs.toArray)) w) : op.wp P a w K Q := by
  unfold Oper.wp execOp
  simp only [ho, hx, Instr.loadAt, Instr.sureAddr, Sem.run_bind, Sem.run_pure, Result.andThen_ok, run_loadVar_row w b t ty cs.toArray (0, 0) d hc hu hd (by simpa using hi)]
  exact h
theorem wpList_load_row {ops : Array Oper} {rest : List Oper} {op : Oper} {a : Act} {w : World} {Q : Exit → Act → World → Prop} (hgd : op.guard = none) (ty : TypeId) (x : Operand) (ho : op.op = .load ty x)
    (b : Nat) (hx : a.eval x = .pointer (some ⟨b, 0, none⟩)) (cs : List Value) (d : TypeDesc) (t : TypeId) (hc : RowIs w b t cs)
    (hu : P.underlying ty = some d) (hd : (match d with | .struct _ | .array _ _ => true | _ => false) = true) (hi : (P.info? ty).map (·.size) = some cs.length)
    (h : wpList P ops Q rest (a.put op.dst (.agg cs.toArray)) w) : wpList P ops Q (op :: rest) a w :=
  wpList_plain hgd fun _ hK => wp_load_row ty x ho b hx cs d t hc hu hd hi (hK _ _ h)
theorem wpList_store_row {ops : Array Oper} {rest : List Oper} {op : Oper} {a : Act} {w : World} {Q : Exit → Act → World → Prop} (hgd : op.guard = none) (ty : TypeId) (x y : Operand) (ho : op.op = .store ty x y)
    (b : Nat) (cs : List Value) (hx : a.eval x = .pointer (some ⟨b, 0, none⟩)) (hy : a.eval y = .agg cs.toArray) (t : TypeId) (old : List Value) (hc : RowIs w b t old)
    (hi : (P.info? ty).map (·.size) = some cs.length) (hl : old.length = cs.length) (h1 : ∀ u ∈ cs, u.oneCell' = true)
    (h : wpList P ops Q rest (a.put op.dst undef) (w.setRow b cs.toArray)) : wpList P ops Q (op :: rest) a w :=
  wpList_plain hgd fun _ hK => wp_store_row ty x y ho b cs.toArray hx hy t old.toArray hc (by simpa using hi) (by simpa using hl) (Array.all_eq_true_iff_forall_mem.2 (fun v hv => h1 v (by simpa using hv))) (hK _ _ h)
theorem wpList_alloc_row {ops : Array Oper} {rest : List Oper} {op : Oper} {a : Act} {w : World} {Q : Exit → Act → World → Prop} (hgd : op.guard = none) (ty : TypeId) (ho : op.op = .alloc ty)
    (cs : List Value) (hz : ∀ w, (zeroValue ty).run P w = .ok (.agg cs.toArray) w)
    (h : wpList P ops Q rest (a.put op.dst (.pointer (some ⟨w.heap.size, 0, none⟩))) (w.alloc (.cells cs.toArray ty))) : wpList P ops Q (op :: rest) a w :=
  wpList_plain hgd fun _ hK => by
    unfold Oper.wp execOp
    have := hz w
    simp [ho, Instr.alloc, Instr.box, newVar, newRow, newObj, this, Value.cells]
    exact hK _ _ h
end
end Go.Proofs.Ytejmnkabmajebaa
/- A slice that came in, of elements of whatever make, read as a list. -/
namespace Go.Proofs.Ytejmnkabmajebaa
open Go.RowKit
set_option maxRecDepth 100000
set_option linter.unusedSimpArgs false
set_option linter.unusedVariables false

open Go.ChangeShapes Go.WideShapes Go.ChangeAt Go.Joins Go.Deep in
theorem open_rows {α : Type} (x0 : α) (f : α → List Value) (size : Nat) (hf : ∀ x, (f x).length = size) (R : α → Prop) {H : Type} {enc : TypeId × Value → H} {W : World} {base : Nat} {spare : Nat → Bool} {held : Bool} {t e : TypeId} {fuel : Nat} {v : Value} {x : DataW H × List MemPlace}
    (ht : Try.prog.underlying t = some (.slice e)) (hs : Try.prog.cellsOf e = size) (hpos : 0 < size)
    (hel : ∀ cs n y, DataW.trod enc Try.prog W base spare held n e cs = some y → ∃ x : α, cs = f x ∧ R x)
    (h : DataW.trod enc Try.prog W base spare held fuel t [v] = some x) : ∃ L : List α, Reads W v L.length size (L.flatMap f) ∧ ∀ x ∈ L, R x := by
  have hinh : Inhabited α := ⟨x0⟩
  rcases Deep.open_slice ht h with ⟨hcs, _⟩ | ⟨a, len, cap, m, n, D, Pl, hcs, hb, hl, hm, hmm, _, hx⟩
  · simp only [List.cons.injEq, and_true] at hcs
    subst hcs
    exact ⟨[], ⟨by simp, none, 0, rfl, Nat.le_refl _, Nat.zero_le _, fun h => absurd h (by simp)⟩, fun x hx => by cases hx⟩
  · simp only [List.cons.injEq, and_true] at hcs
    subst hcs
    have hlm : len ≤ m := by rw [hmm]; split <;> omega
    obtain ⟨X, hX⟩ := Deep.choose_lt (α := α) (n := len) (p := fun i x => W.cells? base (a.add (i * size)) size = some (f x) ∧ R x) (fun i hi => by
      obtain ⟨cs', h1, h2⟩ := hx i (by omega)
      rw [hs] at h1
      obtain ⟨x, rfl, hr⟩ := hel cs' _ _ h2
      exact ⟨x, h1, hr⟩)
    have hlen : ((List.range len).map X).length = len := by simp
    have hget : ∀ i (hi : i < len), ((List.range len).map X)[i]'(by simpa using hi) = X i := fun i hi => by simp
    refine ⟨(List.range len).map X, ⟨by rw [flat_length f size hf], some a, cap, by rw [hlen], by rw [hlen]; exact hl, hm, fun hn => ?_⟩, fun x hx => ?_⟩
    · rw [hlen] at hn
      obtain ⟨b, o, sp⟩ := a
      have h0 := (hX 0 hn).1
      have hc0 := (World.cells?_some h0).2.2 0 hpos
      have hsome : (f (X 0))[0]? = some ((f (X 0))[0]'(by rw [hf]; exact hpos)) := List.getElem?_eq_getElem _
      rw [hsome] at hc0
      have hsp : sp = none := by
        cases sp with
        | none => rfl
        | some q => simp [Addr.add, World.cell?] at hc0; split at hc0 <;> simp at hc0
      subst hsp
      have hadd : ∀ i r, ((⟨b, o, none⟩ : Addr).add i).add r = ⟨b, o + (i + r), none⟩ := fun i r => by rw [Deep.add_add]; unfold Addr.add; split <;> simp_all
      refine ⟨b, o, rfl, ?_, fun j u hu => ?_⟩
      · have := hadd (0 * size) 0
        rw [this] at hc0
        exact World.block_lt_of_cell? W _ hc0
      · have hj : j < len * size := by
          have := (List.getElem?_eq_some_iff.1 hu).1
          rw [flat_length f size hf, hlen] at this
          exact this
        have hi : j / size < len := by rw [Nat.div_lt_iff_lt_mul hpos]; exact hj
        have hr : j % size < size := Nat.mod_lt _ hpos
        have hjj : j / size * size + j % size = j := by have := Nat.div_add_mod j size; rw [Nat.mul_comm] at this; exact this
        rw [← hjj, flat_get f size hf _ _ (by rw [hlen]; exact hi) _ hr, hget _ hi] at hu
        have hc := (World.cells?_some (hX _ hi).1).2.2 _ hr
        rw [hadd, hu, hjj] at hc
        exact hc
    · obtain ⟨i, hi, rfl⟩ := List.mem_map.1 hx
      exact (hX i (by simpa using hi)).2

open Go.ChangeShapes Go.WideShapes Go.ChangeAt Go.Joins Go.Deep in
theorem cells3 {H : Type} {enc : TypeId × Value → H} {W : World} {base : Nat} {spare : Nat → Bool} {held : Bool} {t : TypeId} {f0 f1 f2 : Field} {fuel : Nat} {cs : List Value} {x : DataW H × List MemPlace} (hs : Try.prog.underlying t = some (.struct #[f0, f1, f2])) (hone : oneCellFields Try.prog #[f0, f1, f2] = true) (hC : Try.prog.cellsOf t = 3)
    (h : DataW.trod enc Try.prog W base spare held fuel t cs = some x) :
    ∃ (c0 c1 c2 : Value) (y0 y1 y2 : DataW H × List MemPlace) (n : Nat), cs = [c0, c1, c2] ∧ DataW.trod enc Try.prog W base spare held n f0.type [c0] = some y0 ∧ DataW.trod enc Try.prog W base spare held n f1.type [c1] = some y1 ∧ DataW.trod enc Try.prog W base spare held n f2.type [c2] = some y2 := by
  obtain ⟨y0, y1, y2, n, hx, hl, h0, h1, h2⟩ := trod_struct3 hs h
  obtain ⟨o0, k0⟩ := hone_of hone 0 f0 rfl
  obtain ⟨o1, k1⟩ := hone_of hone 1 f1 rfl
  obtain ⟨o2, k2⟩ := hone_of hone 2 f2 rfl
  rw [hC] at hl
  match cs, hl with
  | [c0, c1, c2], _ => exact ⟨c0, c1, c2, y0, y1, y2, n, rfl, by simpa [o0, k0] using h0, by simpa [o1, k1] using h1, by simpa [o2, k2] using h2⟩
open Go.ChangeShapes Go.WideShapes Go.ChangeAt Go.Joins Go.Deep in
theorem cells4 {H : Type} {enc : TypeId × Value → H} {W : World} {base : Nat} {spare : Nat → Bool} {held : Bool} {t : TypeId} {f0 f1 f2 f3 : Field} {fuel : Nat} {cs : List Value} {x : DataW H × List MemPlace} (hs : Try.prog.underlying t = some (.struct #[f0, f1, f2, f3])) (hone : oneCellFields Try.prog #[f0, f1, f2, f3] = true) (hC : Try.prog.cellsOf t = 4)
    (h : DataW.trod enc Try.prog W base spare held fuel t cs = some x) :
    ∃ (c0 c1 c2 c3 : Value) (y0 y1 y2 y3 : DataW H × List MemPlace) (n : Nat), cs = [c0, c1, c2, c3] ∧ DataW.trod enc Try.prog W base spare held n f0.type [c0] = some y0 ∧ DataW.trod enc Try.prog W base spare held n f1.type [c1] = some y1 ∧ DataW.trod enc Try.prog W base spare held n f2.type [c2] = some y2 ∧ DataW.trod enc Try.prog W base spare held n f3.type [c3] = some y3 := by
  obtain ⟨y0, y1, y2, y3, n, hx, hl, h0, h1, h2, h3⟩ := trod_struct4 hs h
  obtain ⟨o0, k0⟩ := hone_of hone 0 f0 rfl
  obtain ⟨o1, k1⟩ := hone_of hone 1 f1 rfl
  obtain ⟨o2, k2⟩ := hone_of hone 2 f2 rfl
  obtain ⟨o3, k3⟩ := hone_of hone 3 f3 rfl
  rw [hC] at hl
  match cs, hl with
  | [c0, c1, c2, c3], _ => exact ⟨c0, c1, c2, c3, y0, y1, y2, y3, n, rfl, by simpa [o0, k0] using h0, by simpa [o1, k1] using h1, by simpa [o2, k2] using h2, by simpa [o3, k3] using h3⟩
end Go.Proofs.Ytejmnkabmajebaa
