/- A text that is drawn: some bytes, no more than asked for; of what was there the cursor alone has moved. -/
import Derived.Test.YtelcnojmfkoboaaDoorCur
import Derived.Handy
import Derived.Lib.SmallJoins
import Derived.Laws.AppendOwn
import Derived.Laws.IdiomStrings
import Derived.Lib.BufferRead
namespace Go.Proofs.YtelcnojmfkoboaaDoor
open Go.RowKit
set_option maxRecDepth 100000
set_option linter.unusedSimpArgs false
set_option linter.unusedVariables false

/-- A byte's value. -/
def ByteVal (v : Value) : Prop := ∃ z : Int, v = .int .u8 z ∧ 0 ≤ z ∧ z ≤ 255

theorem ownsRow_moves {w w' : World} {g base n size : Nat} {e : TypeId} {v : Value} {xs : List Value} (h : w.ownsRow base e size v n xs) (hm : Moves g w w') (hg : g < base) : w'.ownsRow base e size v n xs := by
  obtain ⟨h1, h2⟩ := h
  refine ⟨h1, ?_⟩
  rcases h2 with h2 | ⟨b, cap, cur, e1, e2, e3, e4⟩
  · exact .inl h2
  · refine .inr ⟨b, cap, cur, e1, e2, ?_, e4⟩
    rw [hm.block b (Array.getElem?_eq_some_iff.1 e3).1 (by omega)]
    exact e3

theorem Moves.grown {g : Nat} {w a b : World} {row : Option Nat} (h : Moves g w a) (hg : a.grownBy b row) (hr : ∀ k, row = some k → w.heap.size ≤ k) : Moves g w b :=
  ⟨hg.os.trans h.os, hg.tape.trans h.tape, hg.output.trans h.output, Nat.le_trans h.size hg.size, fun k hk hne => (hg.block k (Nat.lt_of_lt_of_le hk h.size) (fun e => by have := hr k e.symm; omega)).trans (h.block k hk hne)⟩

theorem Cur.grown {w w' : World} {g B : Nat} {row : Option Nat} (h : Cur w g B) (hg : w.grownBy w' row) (hr : ∀ k, row = some k → g < k) : Cur w' g B :=
  h.kept ⟨hg.os, hg.tape, hg.output, hg.size, fun k hk => hg.block k (by have := h.lt; omega) (fun e => by have := hr k e.symm; omega)⟩

theorem bytes_list : ∀ (xs : List Value), (∀ v ∈ xs, ByteVal v) → ∃ l : List UInt8, l.length = xs.length ∧ ∀ j (hj : j < l.length), xs[j]? = some (.int .u8 (l[j].toNat : Int))
  | [], _ => ⟨[], rfl, fun j hj => by simp at hj⟩
  | v :: xs, h => by
    obtain ⟨l, hl, hj⟩ := bytes_list xs (fun u hu => h u (List.mem_cons_of_mem _ hu))
    obtain ⟨z, rfl, z0, z1⟩ := h v List.mem_cons_self
    refine ⟨UInt8.ofNat z.toNat :: l, by simp [hl], fun j hjj => ?_⟩
    cases j with
    | zero =>
      have : ((UInt8.ofNat z.toNat).toNat : Int) = z := by simp [UInt8.toNat_ofNat']; omega
      show some (Value.int .u8 z) = some (Value.int .u8 ((UInt8.ofNat z.toNat).toNat : Int))
      rw [this]
    | succ k =>
      have := hj k (by simpa using hjj)
      simpa using this

theorem row_to_string {W : World} {base n : Nat} {v : Value} {xs : List Value} (hown : W.ownsRow base 5 1 v n xs) (hx : ∀ u ∈ xs, ByteVal u) :
    ∃ s : ByteArray, s.size = n ∧ (convert 22 9 v).run Tryd.prog W = .ok (.string s) W := by
  obtain ⟨h1, h2⟩ := hown
  rcases h2 with ⟨rfl, rfl⟩ | ⟨b, cap, cur, rfl, e2, e3, e4, e5, e6, e7⟩
  · exact ⟨⟨#[]⟩, rfl, by simpa using Lib.run_convert_nil_bytes (P := Tryd.prog) W 22 9 5 0 Tryd.underlying22 Tryd.underlying5 Tryd.underlying9⟩
  · obtain ⟨l, hl, hj⟩ := bytes_list xs hx
    have hn : l.length = n := by omega
    refine ⟨⟨l.toArray⟩, by simp [ByteArray.size, hn], ?_⟩
    have := run_convert_bytes_back (P := Tryd.prog) W 22 9 5 ⟨b, 0, none⟩ cap l Tryd.underlying22 Tryd.underlying5 Tryd.underlying9 (fun j hjl => by
      have h5 := hj j hjl
      have h6 : W.cell? ((⟨b, 0, none⟩ : Addr).add j) = cur[j]? := by by_cases hj0 : j = 0 <;> simp [Addr.add, World.cell?, e3, hj0]
      rw [h6, ← Array.getElem?_toList, ← h5, ← e7, List.getElem?_take_of_lt (by omega)])
    rw [hn] at this
    exact this

theorem ownsRow_set {W : World} {base b n cap t : Nat} {e : TypeId} {xs : List Value} (h : W.ownsRow base e 1 (.slice (some ⟨b, 0, none⟩) n cap) n xs) (u : Value) :
    (W.setCell ⟨b, t, none⟩ u).ownsRow base e 1 (.slice (some ⟨b, 0, none⟩) n cap) n (xs.set t u) := by
  obtain ⟨h1, h2⟩ := h
  refine ⟨by simpa using h1, ?_⟩
  rcases h2 with ⟨h2, _⟩ | ⟨b', cap', cur, e1, e2, e3, e4, e5, e6, e7⟩
  · cases h2
  · simp only [Value.slice.injEq, Option.some.injEq, Addr.mk.injEq, and_true, true_and] at e1
    obtain ⟨rfl, rfl⟩ := e1
    refine .inr ⟨b, cap, cur.setIfInBounds t u, rfl, e2, Joins.block_setCell e3 u, e4, e5, by simpa using e6, ?_⟩
    rw [Array.toList_setIfInBounds, List.take_set, e7]

theorem ownsRow_at {W : World} {base b n cap t : Nat} {e : TypeId} {xs : List Value} (h : W.ownsRow base e 1 (.slice (some ⟨b, 0, none⟩) n cap) n xs) (ht : t < n) :
    (∃ u, W.cell? ⟨b, t, none⟩ = some u) ∧ W.frozen? ⟨b, t, none⟩ = false ∧ base ≤ b ∧ n ≤ cap ∧ b < W.heap.size := by
  obtain ⟨h1, h2⟩ := h
  rcases h2 with ⟨h2, _⟩ | ⟨b', cap', cur, e1, e2, e3, e4, e5, e6, e7⟩
  · cases h2
  · simp only [Value.slice.injEq, Option.some.injEq, Addr.mk.injEq, and_true, true_and] at e1
    obtain ⟨rfl, rfl⟩ := e1
    have hlt : t < cur.size := by omega
    exact ⟨⟨cur[t], by rw [Joins.cell_of_block e3, Array.getElem?_eq_getElem hlt]⟩, Joins.unfrozen_of_block e3 t, e2, e4, (Array.getElem?_eq_some_iff.1 e3).1⟩

theorem mem_set_byte {xs : List Value} (hx : ∀ u ∈ xs, ByteVal u) (t : Nat) (u : Value) (hu : ByteVal u) : ∀ v ∈ xs.set t u, ByteVal v := by
  intro v hv
  rcases List.mem_or_eq_of_mem_set hv with h | h
  · exact hx v h
  · rw [h]; exact hu

theorem mem_append_byte {xs : List Value} (hx : ∀ u ∈ xs, ByteVal u) (u : Value) (hu : ByteVal u) : ∀ v ∈ xs ++ [u], ByteVal v := by
  intro v hv
  rcases List.mem_append.1 hv with h | h
  · exact hx v h
  · simp at h; rw [h]; exact hu

set_option maxHeartbeats 1000000 in
set_option maxRecDepth 100000 in
theorem text1 (g B : Nat) (most : Int) (w : World) (hc : Cur w g B) (h0 : 0 ≤ most) (h1 : most ≤ 1000) :
    Calls Tryd.prog 54 #[.pointer (some ⟨g, 0, none⟩), .int .i64 most] w fun e w' => ∃ s : ByteArray, (s.size : Int) ≤ most ∧ e = .returned (.string s) ∧ Cur w' g B ∧ Moves g w w' := by
  have hgw := hc.lt
  obtain ⟨i0, hi, hz0, hz1, hz2⟩ := info_parts (P := Tryd.prog) (e := 5) (z := .int .u8 0) (size := 1) (bytes := 1) (by kernel_rfl)
  go_enter Tryd.func54, Tryd.ntmps54
  go_wp2_with fail
  refine (below1 g B (most + 1) _ (hc.alloc _) (by omega)).mono ?_; rintro e w1 ⟨x, x0, x1, x2, rfl, hc1, hm1⟩
  have hs1 := hm1.size
  simp at hs1
  have hm1' : Moves g w w1 := ((Moves.refl g w).alloc _).trans hm1
  have ho1 : w1.ownsRow w.heap.size 5 1 (.slice (some ⟨w.heap.size, 0, none⟩) 0 0) 0 [] := ownsRow_moves (World.ownsRow_made w #[] 0 (Nat.le_refl _) (Nat.zero_le _) rfl) hm1 hgw
  go_wp2_with fail
  go_loopw [5, 6] (fun v n wr => ∃ (m : Nat) (xs : List Value), n = .int .i64 m ∧ ((m + xs.length : Nat) : Int) ≤ most ∧ (∀ u ∈ xs, ByteVal u) ∧ wr.ownsRow w.heap.size 5 1 v xs.length xs ∧ Cur wr g B ∧ Moves g w wr) (fun _ n _ => (intOf n).toNat)
  case atStart =>
    obtain ⟨m, rfl⟩ : ∃ m : Nat, x = m := ⟨x.toNat, by omega⟩
    exact ⟨m, [], rfl, by simp; omega, fun u hu => by simp at hu, ho1, hc1, hm1'⟩
  case round =>
    obtain ⟨m, xs, rfl, hmx, hx, hown, hcr, hmr⟩ := hrel
    have hsr := hmr.size
    by_cases hm : 0 < m
    · obtain ⟨m', rfl⟩ : ∃ m', m = m' + 1 := ⟨m - 1, by omega⟩
      go_wp2_with fail
      refine (below1 g B 4 _ hcr (by omega)).mono ?_; rintro e w2 ⟨y, y0, y1, y2, rfl, hc2, hm2⟩
      have y4 : y < 4 := y1 (by omega)
      have hs2 := hm2.size
      have hown2 := (ownsRow_moves hown hm2 hgw).alloc (.cells #[.int .u8 (97 + y)] 5)
      have hlen : xs.length + 1 ≤ 1000 := by simp at hmx; omega
      go_wp2_with (at_builtin; refine wpList_append_own _ rfl _ _ 22 rfl w.heap.size 5 i0 (.int .u8 0) 1 1 Tryd.underlying22 hi hz0 hz1 hz2 rfl (by decide) _ _ _ rfl hown2 ⟨w2.heap.size, 0, none⟩ 1 1 [.int .u8 (97 + y)] rfl rfl ?c1 ?c2 ?c3 ?c4 ?c5 ?_)
      case c1 =>
        intro j u hj
        match j, hj with
        | 0, hj => simp at hj; subst hj; simp [Addr.add]
      case c2 => intro u hu; simp at hu; subst hu; rfl
      case c3 => unfold maxLen; omega
      case c4 => omega
      case c5 => simp; omega
      intro v' w3 hown3 hgrow _
      have hrow : ∀ k, u5.ownBlock = some k → w.heap.size ≤ k := fun k hk => (hown2.lt k hk).1
      have hc3 : Cur w3 g B := (hc2.alloc _).grown hgrow (fun k hk => by have := hrow k hk; omega)
      have hm3 : Moves g w w3 := ((hmr.trans hm2).alloc _).grown hgrow hrow
      have HX : Hid (∀ u ∈ xs ++ [Value.int .u8 (97 + y)], ByteVal u) := mem_append_byte hx _ ⟨97 + y, rfl, by omega, by omega⟩
      have HO : Hid (w3.ownsRow w.heap.size 5 1 v' (xs ++ [Value.int .u8 (97 + y)]).length (xs ++ [Value.int .u8 (97 + y)])) := by show World.ownsRow _ _ _ _ _ _ _; simpa using hown3
      clear hown3 hown2 hown hx
      go_wp2_with fail
      go_roundw
      case rel => exact ⟨m', _, by go_num, by simp at hmx ⊢; omega, HX.out, HO.out, hc3, hm3⟩
      case measure => simp [intOf]
    · obtain rfl : m = 0 := by omega
      go_wp2_with fail
      refine (once1 g B 7 _ hcr (by omega)).mono ?_; rintro e w2 ⟨v, rfl, hc2, hm2⟩
      have hown2 := ownsRow_moves hown hm2 hgw
      have hmw : Moves g w w2 := hmr.trans hm2
      have hxl : (xs.length : Int) ≤ most := by simp at hmx; exact hmx
      have hs2 := hmw.size
      obtain ⟨s, hss, hcv⟩ := row_to_string hown2 hx
      rcases Joins.ownsRow_forms hown2 with ⟨rfl, hn⟩ | ⟨gb, cap, rfl⟩
      · cases v
        · go_wp2_with fail
          go_ret
          exact ⟨s, by omega, rfl, hc2, hmw⟩
        · go_wp2_with fail
          go_ret
          exact ⟨s, by omega, rfl, hc2, hmw⟩
      · cases v
        · go_wp2_with fail
          go_ret
          exact ⟨s, by omega, rfl, hc2, hmw⟩
        · by_cases hn : ¬ 0 < xs.length
          · have hn' : ¬ (0 : Int) < (xs.length : Int) := by omega
            go_wp2_with fail
            go_ret
            exact ⟨s, by omega, rfl, hc2, hmw⟩
          · have hn' : (0 : Int) < (xs.length : Int) := by omega
            go_wp2_with fail
            refine (below1 g B _ _ hc2 (by omega)).mono ?_; rintro e w3 ⟨t, t0, t1, t2, rfl, hc3, hm3⟩
            obtain ⟨t, rfl⟩ : ∃ t' : Nat, t = t' := ⟨t.toNat, by omega⟩
            have tl : (t : Int) < xs.length := t1 hn'
            go_wp2_with fail
            refine (byte1 g B _ hc3).mono ?_; rintro e w4 ⟨y, y0, y1, rfl, hc4, hm4⟩
            have hown4 := ownsRow_moves (ownsRow_moves hown2 hm3 hgw) hm4 hgw
            obtain ⟨⟨u, hcu⟩, hfu, hgb, hcap, hlt⟩ := ownsRow_at (t := t) hown4 (by omega)
            obtain ⟨s', hss', hcv'⟩ := row_to_string (ownsRow_set (t := t) hown4 (.int .u8 y)) (mem_set_byte hx t _ ⟨y, rfl, y0, y1⟩)
            have hm5 : Moves g w (w4.setCell ⟨gb, t, none⟩ (.int .u8 y)) := ((hmw.trans hm3).trans hm4).setNew _ hgb _
            have hc5 := hc4.set ⟨gb, t, none⟩ (.int .u8 y) (by simp; omega)
            clear hown hown2 hown4 hx
            go_wp2_with fail
            go_ret
            exact ⟨s', by omega, rfl, hc5, hm5⟩
end Go.Proofs.YtelcnojmfkoboaaDoor
