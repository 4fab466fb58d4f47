/- Several small texts of one level, one behind the other. -/
import Derived.Test.YtkhclhnejnpkeaaGreatQNgG3
import Derived.Handy
import Derived.Lib.ConvBytes
import Derived.Deep.RegionLaw
import Derived.Deep.DrawnRows
import Derived.Test.YtkhclhnejnpkeaaGreatQNgBase
import Derived.Test.YtkhclhnejnpkeaaGreatQNgG2
import Derived.Lib.SmallJoins
import Derived.OpenShut
import Derived.ChangeOld
import Derived.Deep.Cut
import Derived.Deep.DeepCutAuto
import Derived.WalkKit
import Derived.ProofKit
import Derived.Laws.Cover1
import Derived.Lib.SlBytesRow
import Derived.Lib.BufferWrite
import Derived.Laws.MakeOwn
import Derived.Deep.RegionHeld3
import Derived.Deep.QuietTactic
/- Rows of whatever make: a row that is being filled, marks, sums. -/
namespace Go.Proofs.YtkhclhnejnpkeaaGreat
open Go.RowKit
set_option maxRecDepth 100000
set_option linter.unusedSimpArgs false
set_option linter.unusedVariables false

section
variable {D : Type} (E : Shp D)
/-- A new row of as many elements as L has, of which the first k are filled with L's. -/
def Filling (w wr : World) (L : List D) (k : Nat) : Prop :=
  k ≤ L.length ∧ Below w.heap.size w wr ∧ w.heap.size < wr.heap.size ∧ ∃ (ts : List (List Value × D × List Nat)) (R : List Value), ts.map (·.2.1) = L.take k ∧ R.length = (L.length - k) * E.size ∧
    wr.ownsRow 0 E.ty E.size (.slice (some ⟨w.heap.size, 0, none⟩) L.length L.length) L.length (ts.flatMap (·.1) ++ R) ∧
    (∀ t ∈ ts, E.own wr t.1 t.2.1 t.2.2) ∧ (ts.flatMap (·.2.2)).Nodup ∧ ∀ b ∈ ts.flatMap (·.2.2), w.heap.size < b
variable {E}
theorem filling_start {w : World} {M : Array Value} {L : List D} (ho : (w.alloc (.cells M E.ty)).ownsRow w.heap.size E.ty E.size (.slice (some ⟨w.heap.size, 0, none⟩) L.length L.length) L.length M.toList) : Filling E w (w.alloc (.cells M E.ty)) L 0 :=
  ⟨Nat.zero_le _, (Below.refl _ _).alloc (Nat.le_refl _) _, by simp, [], M.toList, by simp, by simpa using ho.1, by simpa using owns_base ho (fun k hk => Nat.zero_le _), by simp, by simp, by simp⟩
theorem filling_step {w wr w1 : World} {L : List D} {k : Nat} {cs : List Value} (h : Filling E w wr L k) (hk : k < L.length) (hb : Below wr.heap.size wr w1) (hd : OwE E w1 wr.heap.size w1.heap.size cs L[k]) :
    (∀ r, r < E.size → ∃ u, w1.cell? ⟨w.heap.size, k * E.size + r, none⟩ = some u) ∧ (∀ j, w1.frozen? ⟨w.heap.size, j, none⟩ = false) ∧ w.heap.size < w1.heap.size ∧ Filling E w (setsFrom w1 w.heap.size (k * E.size) cs) L (k + 1) := by
  obtain ⟨hle, hbw, hlt, ts, R, hts, hR, ho, hE, hnd, hlo⟩ := h
  obtain ⟨b2, hd1, hd2, hd3⟩ := hd
  have ho1 := owns_new ho hb
  have hlen : ∀ t ∈ ts, t.1.length = E.size := fun t ht => E.rd_len (E.own_rd (hE t ht))
  have htl : ts.length = k := by have := congrArg List.length hts; simp at this; omega
  have hfl : (ts.flatMap (fun t : List Value × D × List Nat => t.1)).length = k * E.size := by rw [flat_len _ E.size ts hlen, htl]
  have hcl := E.rd_len (E.own_rd hd1)
  have hsz : (L.length - k) * E.size = E.size + (L.length - (k + 1)) * E.size := by
    rw [show L.length - k = (L.length - (k + 1)) + 1 by omega, Nat.succ_mul]; omega
  obtain ⟨g, cap, e1, hg, _, hgl, _, _, hc, hf⟩ := owns_open ho1 (by omega)
  simp only [Value.slice.injEq, Option.some.injEq, Addr.mk.injEq] at e1
  obtain ⟨⟨rfl, _, _⟩, _, _⟩ := e1
  refine ⟨fun r hr => ?_, hf, by have := hb.size; omega, by omega, ?_, ?_, ts ++ [(cs, L[k], b2)], R.drop E.size, ?_, ?_, ?_, ?_, ?_, ?_⟩
  · have hin : k * E.size + r < (ts.flatMap (fun t : List Value × D × List Nat => t.1) ++ R).length := by rw [List.length_append, hfl, hR]; omega
    exact ⟨_, hc _ _ (List.getElem?_eq_getElem hin)⟩
  · exact setsFrom_below _ (Nat.le_refl _) _ _ _ (hbw.trans (hb.mono hbw.size))
  · rw [setsFrom_size]; have := hb.size; omega
  · rw [List.map_append, hts, List.take_succ_eq_append_getElem hk]; rfl
  · rw [List.length_drop, hR, hsz]; omega
  · have ho2 : w1.ownsRow 0 E.ty E.size (.slice (some ⟨w.heap.size, 0, none⟩) L.length L.length) L.length (ts.flatMap (·.1) ++ R.take E.size ++ R.drop E.size) := by rw [List.append_assoc, List.take_append_drop]; exact ho1
    have := owns_sets hg cs w1 _ _ _ ho2 (by rw [List.length_take, hR, hcl, hsz]; omega)
    rw [hfl] at this
    simpa using this
  · intro t ht
    rcases List.mem_append.1 ht with h | h
    · refine E.own_keep (hE t h) (by rw [setsFrom_size]; exact hb.size) fun x hx => ?_
      have hxm : x ∈ ts.flatMap (·.2.2) := List.mem_flatMap.2 ⟨t, h, hx⟩
      rw [setsFrom_other _ _ _ _ x (by have := hlo x hxm; omega)]
      exact hb.block x (E.own_lt (hE t h) x hx)
    · simp at h
      subst h
      refine E.own_keep hd1 (by rw [setsFrom_size]; exact Nat.le_refl _) fun x hx => setsFrom_other _ _ _ _ x (by have := hd3 x hx; omega)
  · rw [List.flatMap_append]
    refine nodup_mk hnd (by simpa using hd2) fun x hx hx2 => ?_
    obtain ⟨t, ht, hxt⟩ := List.mem_flatMap.1 hx
    have h1 := E.own_lt (hE t ht) x hxt
    have h2 : x ∈ b2 := by simpa using hx2
    have := hd3 x h2
    omega
  · intro x hx
    rw [List.flatMap_append] at hx
    rcases List.mem_append.1 hx with h | h
    · exact hlo x h
    · have h2 : x ∈ b2 := by simpa using h
      have := hd3 x h2
      omega
theorem filling_end {w wr : World} {L : List D} (h : Filling E w wr L L.length) : OwX E wr w.heap.size wr.heap.size (.slice (some ⟨w.heap.size, 0, none⟩) L.length L.length) L ∧ Below w.heap.size w wr := by
  obtain ⟨hle, hbw, hlt, ts, R, hts, hR, ho, hE, hnd, hlo⟩ := h
  have hR0 : R = [] := by rw [Nat.sub_self, Nat.zero_mul] at hR; exact List.length_eq_zero_iff.1 hR
  subst hR0
  rw [List.take_length] at hts
  have htl : ts.length = L.length := by rw [← hts]; simp
  refine ⟨⟨w.heap.size :: ts.flatMap (·.2.2), ⟨ts, hts.symm, by rw [htl]; simpa using ho, hE, by simp [Value.ownBlock]⟩, ?_, ?_⟩, hbw⟩
  · exact List.nodup_cons.2 ⟨fun h => by have := hlo _ h; omega, hnd⟩
  · intro b hb
    rcases List.mem_cons.1 hb with rfl | hb
    · omega
    · have := hlo b hb
      obtain ⟨t, ht, hbt⟩ := List.mem_flatMap.1 hb
      have := E.own_lt (hE t ht) b hbt
      omega
end
section
variable {D : Type} (mk1 : D → Nat → D) (c1 : D → Nat)
/-- The marks of a row, from k on; and how many. -/
def mkLs : List D → Nat → List D
  | [], _ => []
  | d :: L, k => mk1 d k :: mkLs L (k + c1 d)
def cntLs : List D → Nat
  | [] => 0
  | d :: L => c1 d + cntLs L
theorem cnt_app (A B : List D) : cntLs c1 (A ++ B) = cntLs c1 A + cntLs c1 B := by
  induction A with
  | nil => simp [cntLs]
  | cons a A ih => simp only [List.cons_append, cntLs, ih]; omega
theorem cnt_take (L : List D) (j : Nat) (h : j < L.length) : cntLs c1 (L.take (j + 1)) = cntLs c1 (L.take j) + c1 L[j] := by
  rw [List.take_succ_eq_append_getElem h, cnt_app]; simp [cntLs]
theorem cnt_le (L : List D) (j : Nat) : cntLs c1 (L.take j) ≤ cntLs c1 L := by
  have h : cntLs c1 L = cntLs c1 (L.take j) + cntLs c1 (L.drop j) := by rw [← cnt_app, List.take_append_drop]
  omega
theorem mk_len' (L : List D) (k : Nat) : (mkLs mk1 c1 L k).length = L.length := by
  induction L generalizing k with
  | nil => rfl
  | cons d L ih => simp [mkLs, ih]
theorem mk_app (A B : List D) (k : Nat) : mkLs mk1 c1 (A ++ B) k = mkLs mk1 c1 A k ++ mkLs mk1 c1 B (k + cntLs c1 A) := by
  induction A generalizing k with
  | nil => simp [mkLs, cntLs]
  | cons d A ih => simp only [List.cons_append, mkLs, cntLs, ih]; rw [Nat.add_assoc]
theorem mk_at (L : List D) (k j : Nat) (h : j < L.length) (h' : j < (mkLs mk1 c1 L k).length) : (mkLs mk1 c1 L k)[j] = mk1 L[j] (k + cntLs c1 (L.take j)) := by
  induction L generalizing k j with
  | nil => exact absurd h (Nat.not_lt_zero _)
  | cons d L ih =>
    cases j with
    | zero => simp [mkLs, cntLs]
    | succ j =>
      simp only [mkLs, List.getElem_cons_succ, List.take_succ_cons, cntLs]
      rw [ih (k + c1 d) j (by simpa using h) (by rw [mk_len']; simpa using h), Nat.add_assoc]
/-- Half marked: the first j. -/
def mixLs (L : List D) (k j : Nat) : List D := mkLs mk1 c1 (L.take j) k ++ L.drop j
theorem mix_len (L : List D) (k j : Nat) (h : j ≤ L.length) : (mixLs mk1 c1 L k j).length = L.length := by unfold mixLs; rw [List.length_append, mk_len', List.length_take, List.length_drop]; omega
theorem mix_at (L : List D) (k j : Nat) (h : j < L.length) (h' : j < (mixLs mk1 c1 L k j).length) : (mixLs mk1 c1 L k j)[j] = L[j] := by
  have e : (mixLs mk1 c1 L k j)[j]? = L[j]? := by
    unfold mixLs
    rw [List.getElem?_append_right (by rw [mk_len', List.length_take]; omega), mk_len', List.length_take, Nat.min_eq_left (Nat.le_of_lt h), Nat.sub_self, List.getElem?_drop]
    rfl
  rw [List.getElem?_eq_getElem h', List.getElem?_eq_getElem h] at e
  exact Option.some.inj e
theorem mix_step (L : List D) (k j : Nat) (h : j < L.length) : (mixLs mk1 c1 L k j).set j (mk1 L[j] (k + cntLs c1 (L.take j))) = mixLs mk1 c1 L k (j + 1) := by
  unfold mixLs
  rw [List.set_append_right _ _ (by rw [mk_len', List.length_take]; omega), List.take_succ_eq_append_getElem h, mk_app, mk_len', List.length_take, Nat.min_eq_left (Nat.le_of_lt h), Nat.sub_self, List.drop_eq_getElem_cons h]
  simp only [mkLs, List.set_cons_zero, List.append_assoc, List.cons_append, List.nil_append]
theorem mix_zero (L : List D) (k : Nat) : mixLs mk1 c1 L k 0 = L := by simp [mixLs, mkLs]
theorem mix_end (L : List D) (k : Nat) : mixLs mk1 c1 L k L.length = mkLs mk1 c1 L k := by simp [mixLs]
end
section
variable {D : Type} (f : D → Int)
/-- The sum over a row. -/
def sumLs : List D → Int
  | [] => 0
  | d :: L => f d + sumLs L
theorem sum_app (A B : List D) : sumLs f (A ++ B) = sumLs f A + sumLs f B := by
  induction A with
  | nil => simp [sumLs]
  | cons a A ih => simp only [List.cons_append, sumLs, ih]; omega
theorem sum_take (L : List D) (j : Nat) (h : j < L.length) : sumLs f (L.take (j + 1)) = sumLs f (L.take j) + f L[j] := by
  rw [List.take_succ_eq_append_getElem h, sum_app]; simp [sumLs]
theorem sum_nn (hf : ∀ d, 0 ≤ f d) (L : List D) : 0 ≤ sumLs f L := by
  induction L with
  | nil => simp [sumLs]
  | cons a A ih => have := hf a; simp only [sumLs]; omega
theorem sum_mem (hf : ∀ d, 0 ≤ f d) (L : List D) (d : D) (h : d ∈ L) : f d ≤ sumLs f L := by
  induction L with
  | nil => cases h
  | cons a A ih =>
    have := sum_nn f hf A
    have := hf a
    simp only [sumLs]
    rcases List.mem_cons.1 h with rfl | h
    · omega
    · have := ih h; omega
end
end Go.Proofs.YtkhclhnejnpkeaaGreat
/- A slice that came in, of elements of whatever make, read as a list of data; structs of few one-cell fields within a row. -/
namespace Go.Proofs.YtkhclhnejnpkeaaGreat
open Go.RowKit
set_option maxRecDepth 100000
set_option linter.unusedSimpArgs false
set_option linter.unusedVariables false
open Go.ChangeShapes Go.WideShapes Go.ChangeAt Go.Joins Go.Deep in
theorem open_shape {D : Type} {E : Shp D} (d0 : D) {H : Type} {enc : TypeId × Value → H} {W : World} {base : Nat} {spare : Nat → Bool} {held : Bool} {t e : TypeId} {fuel : Nat} {v : Value} {x : DataW H × List MemPlace}
    (ht : Tryz.prog.underlying t = some (.slice e)) (hs : Tryz.prog.cellsOf e = E.size)
    (hel : ∀ cs n y, DataW.trod enc Tryz.prog W base spare held n e cs = some y → ∃ d : D, E.rd W cs d)
    (h : DataW.trod enc Tryz.prog W base spare held fuel t [v] = some x) : ∃ L : List D, RdR E W v L := by
  obtain ⟨L, hL, hR⟩ := open_rows (α := {cs : List Value // cs.length = E.size} × D) (⟨List.replicate E.size (.int .i64 0), by simp⟩, d0) (fun x => x.1.1) E.size (fun x => x.1.2) (fun x => E.rd W x.1.1 x.2) ht hs E.pos (fun cs n y hy => by
    obtain ⟨d, hd⟩ := hel cs n y hy
    exact ⟨(⟨cs, E.rd_len hd⟩, d), rfl, hd⟩) h
  refine ⟨L.map (·.2), L.map fun x => (x.1.1, x.2), by simp [Function.comp_def], ?_, fun t ht => ?_⟩
  · simpa [List.flatMap_map] using hL
  · obtain ⟨x, hx, rfl⟩ := List.mem_map.1 ht
    exact hR x hx
open Go.ChangeShapes Go.WideShapes Go.ChangeAt Go.Joins Go.Deep in
theorem scells4 {H : Type} {enc : TypeId × Value → H} {W : World} {base : Nat} {spare : Nat → Bool} {held : Bool} {t : TypeId} {f0 f1 f2 f3 : Field} {fuel : Nat} {cs : List Value} {x : DataW H × List MemPlace} (hs : Tryz.prog.underlying t = some (.struct #[f0, f1, f2, f3])) (hone : oneCellFields Tryz.prog #[f0, f1, f2, f3] = true) (hC : Tryz.prog.cellsOf t = 4)
    (h : DataW.trod enc Tryz.prog W base spare held fuel t cs = some x) :
    ∃ (c0 c1 c2 c3 : Value) (y0 y1 y2 y3 : DataW H × List MemPlace) (n : Nat), cs = [c0, c1, c2, c3] ∧ DataW.trod enc Tryz.prog W base spare held n f0.type [c0] = some y0 ∧ DataW.trod enc Tryz.prog W base spare held n f1.type [c1] = some y1 ∧ DataW.trod enc Tryz.prog W base spare held n f2.type [c2] = some y2 ∧ DataW.trod enc Tryz.prog W base spare held n f3.type [c3] = some y3 := by
  obtain ⟨y0, y1, y2, y3, n, hx, hl, h0, h1, h2, h3⟩ := trod_struct4 hs h
  obtain ⟨o0, k0⟩ := hone_of hone 0 f0 rfl
  obtain ⟨o1, k1⟩ := hone_of hone 1 f1 rfl
  obtain ⟨o2, k2⟩ := hone_of hone 2 f2 rfl
  obtain ⟨o3, k3⟩ := hone_of hone 3 f3 rfl
  rw [hC] at hl
  match cs, hl with
  | [c0, c1, c2, c3], _ => exact ⟨c0, c1, c2, c3, y0, y1, y2, y3, n, rfl, by simpa [o0, k0] using h0, by simpa [o1, k1] using h1, by simpa [o2, k2] using h2, by simpa [o3, k3] using h3⟩
end Go.Proofs.YtkhclhnejnpkeaaGreat
/- A text that is bent: some bytes, at most two more than before; of what was there the cursor alone has moved. -/
namespace Go.Proofs.YtkhclhnejnpkeaaGreat
open Go.RowKit
set_option maxRecDepth 100000
set_option linter.unusedSimpArgs false
set_option linter.unusedVariables false

/-- A slice of n bytes in a block that the call made. -/
def BR (w : World) (base : Nat) (ad : Option Addr) (n cap : Nat) : Prop :=
  n ≤ cap ∧ cap ≤ maxLen ∧ (0 < n → ∃ blk, ad = some ⟨blk, 0, none⟩ ∧ base ≤ blk ∧ blk < w.heap.size ∧ ∀ j, j < n → (∃ u, ByteVal u ∧ w.cell? ⟨blk, j, none⟩ = some u) ∧ w.frozen? ⟨blk, j, none⟩ = false)

theorem BR.kept {w w' : World} {base : Nat} {ad : Option Addr} {n cap : Nat} (h : BR w base ad n cap) (hs : w.heap.size ≤ w'.heap.size) (hk : ∀ k, base ≤ k → k < w.heap.size → w'.heap[k]? = w.heap[k]?) : BR w' base ad n cap := by
  obtain ⟨h1, h2, h3⟩ := h
  refine ⟨h1, h2, fun hn => ?_⟩
  obtain ⟨blk, rfl, hb, hl, hc⟩ := h3 hn
  refine ⟨blk, rfl, hb, by omega, fun j hj => ?_⟩
  have e := hk blk hb hl
  obtain ⟨⟨u, hu, hcu⟩, hf⟩ := hc j hj
  exact ⟨⟨u, hu, (World.cell?_of_block (a := ⟨blk, j, none⟩) e).trans hcu⟩, (World.frozen?_of_block (a := ⟨blk, j, none⟩) e).trans hf⟩
/-- A window of such a slice reads as bytes. -/
theorem BR.window {w : World} {base : Nat} {n cap blk : Nat} (h : BR w base (some ⟨blk, 0, none⟩) n cap) (i m cap' : Nat) (him : i + m ≤ n) (hc : m ≤ cap') (hc' : cap' ≤ maxLen) (ad : Option Addr) (ha : 0 < m → ad = some ⟨blk, i, none⟩) :
    ∃ xs : List Value, (∀ u ∈ xs, ByteVal u) ∧ xs.length = m ∧ Reads w (.slice ad m cap') m 1 xs := by
  obtain ⟨h1, h2, h3⟩ := h
  have hall : ∀ m, i + m ≤ n → ∃ xs : List Value, (∀ u ∈ xs, ByteVal u) ∧ xs.length = m ∧ ∀ j u, xs[j]? = some u → w.cell? ⟨blk, i + j, none⟩ = some u := by
    intro m
    induction m with
    | zero => intro _; exact ⟨[], by simp, rfl, by simp⟩
    | succ m ih =>
      intro hm
      obtain ⟨xs, a1, a2, a3⟩ := ih (by omega)
      obtain ⟨blk', e, _, _, hcc⟩ := h3 (by omega)
      simp only [Option.some.injEq, Addr.mk.injEq, and_true] at e
      subst e
      obtain ⟨⟨u, hu, hcu⟩, _⟩ := hcc (i + m) (by omega)
      refine ⟨xs ++ [u], mem_append_byte a1 u hu, by simp [a2], fun j v hj => ?_⟩
      by_cases hjm : j < m
      · rw [List.getElem?_append_left (by omega)] at hj; exact a3 j v hj
      · have : j = m := by
          have := (List.getElem?_eq_some_iff.1 hj).1
          simp at this; omega
        subst this
        rw [← a2] at hj
        simp at hj
        subst hj; exact hcu
  obtain ⟨xs, a1, a2, a3⟩ := hall m him
  refine ⟨xs, a1, a2, by omega, ad, cap', rfl, hc, hc', fun hm => ?_⟩
  obtain ⟨blk', e, _, hl, _⟩ := h3 (by omega)
  simp only [Option.some.injEq, Addr.mk.injEq, and_true] at e
  subst e
  exact ⟨blk, i, ha hm, hl, a3⟩
theorem BR.string {W : World} {base n cap : Nat} {ad : Option Addr} (h : BR W base ad n cap) (hn : n = 0 → ad = none ∨ ∃ b o, ad = some ⟨b, o, none⟩) :
    ∃ s : ByteArray, s.size = n ∧ (convert 149 9 (.slice ad n cap)).run Tryz.prog W = .ok (.string s) W := by
  by_cases h0 : n = 0
  · subst h0
    rcases hn rfl with rfl | ⟨b, o, rfl⟩
    · exact ⟨⟨#[]⟩, rfl, by simpa using Lib.run_convert_nil_bytes (P := Tryz.prog) W 149 9 5 cap Tryz.underlying149 Tryz.underlying5 Tryz.underlying9⟩
    · exact ⟨⟨#[]⟩, rfl, by simpa using run_convert_bytes_back (P := Tryz.prog) W 149 9 5 ⟨b, o, none⟩ cap [] Tryz.underlying149 Tryz.underlying5 Tryz.underlying9 (fun j hj => by simp at hj)⟩
  · obtain ⟨blk, rfl, hb, hl, hc⟩ := h.2.2 (by omega)
    obtain ⟨xs, a1, a2, a3⟩ := h.window (blk := blk) 0 n cap (by omega) h.1 h.2.1 (some ⟨blk, 0, none⟩) (fun _ => rfl)
    obtain ⟨l, hl1, hl2⟩ := bytes_list xs a1
    refine ⟨⟨l.toArray⟩, by simp [ByteArray.size]; omega, ?_⟩
    have := run_convert_bytes_back (P := Tryz.prog) W 149 9 5 ⟨blk, 0, none⟩ cap l Tryz.underlying149 Tryz.underlying5 Tryz.underlying9 (fun j hj => by
      obtain ⟨_, ad', cap', e, _, _, hh⟩ := a3
      obtain ⟨b', o', e2, _, hh2⟩ := hh (by omega)
      simp only [Value.slice.injEq, true_and] at e
      obtain ⟨rfl, rfl⟩ := e
      simp only [Option.some.injEq, Addr.mk.injEq, and_true] at e2
      obtain ⟨rfl, rfl⟩ := e2
      have h6 : ((⟨blk, 0, none⟩ : Addr).add j) = ⟨blk, 0 + j, none⟩ := by unfold Addr.add; split <;> simp_all
      rw [h6]
      exact hh2 j _ (hl2 j hj))
    rw [show l.length = n by omega] at this
    exact this

end Go.Proofs.YtkhclhnejnpkeaaGreat
/- Plain mathematics of chapter 3: a number that is read from bytes, as the model reads it and by the parts that the program's iterator gives. -/
namespace Go.Proofs.YtkhclhnejnpkeaaGreat
open Go.RowKit
set_option maxRecDepth 100000
set_option linter.unusedVariables false

/-- The place of byte i is p. -/
def Plc (i : Nat) (p : Int) : Prop := (i = 1 ∧ p = 1) ∨ (i = 2 ∧ p = 128) ∨ (i = 3 ∧ p = 16384) ∨ (i = 4 ∧ p = 2097152) ∨ (i = 5 ∧ p = 268435456) ∨ (i = 6 ∧ p = 34359738368)
theorem Plc.lo {i : Nat} {p : Int} (h : Plc i p) : 1 ≤ i ∧ i ≤ 6 ∧ 1 ≤ p ∧ p ≤ 34359738368 ∧ (i ≤ 5 ↔ p ≤ 268435456) := by unfold Plc at *; omega

end Go.Proofs.YtkhclhnejnpkeaaGreat
/- Rows of Fields: copied, held against each other, marked, read again, counted. -/
namespace Go.Proofs.YtkhclhnejnpkeaaGreat
open Go.RowKit
set_option maxRecDepth 100000
set_option linter.unusedSimpArgs false
set_option linter.unusedVariables false

structure Fd where
  n : ByteArray
  v : ByteArray
def Fd.cs (f : Fd) : List Value := [.string f.n, .string f.v]
/-- Small enough to be a Go text. -/
def Fd.fine (f : Fd) : Prop := f.n.size ≤ 9223372036854775807 ∧ f.v.size ≤ 9223372036854775807
def fv (L : List Fd) : List Value := L.flatMap Fd.cs
theorem fcs_len (s : Fd) : s.cs.length = 2 := rfl
theorem fv_len (L : List Fd) : (fv L).length = L.length * 2 := flat_length Fd.cs 2 fcs_len L
theorem fv_get (L : List Fd) (k : Nat) (h : k < L.length) : (fv L)[k * 2]? = some (.string L[k].n) ∧ (fv L)[k * 2 + 1]? = some (.string L[k].v) :=
  ⟨flat_get Fd.cs 2 fcs_len L k h 0 (by decide), flat_get Fd.cs 2 fcs_len L k h 1 (by decide)⟩
theorem fv_one (L : List Fd) : ∀ u ∈ fv L, u.oneCell' = true := by
  intro u hu
  obtain ⟨f, _, hf⟩ := List.mem_flatMap.1 hu
  simp only [Fd.cs, List.mem_cons, List.not_mem_nil, or_false] at hf
  rcases hf with rfl | rfl <;> rfl
theorem fv_app (A B : List Fd) : fv (A ++ B) = fv A ++ fv B := by simp [fv]

theorem eqField1 (s : Fd) (w : World) : Calls Tryz.prog 160 #[.agg #[.string s.n, .string s.v], .agg #[.string s.n, .string s.v]] w fun x w' => x = .returned (.bool true) ∧ Below w.heap.size w w' := by
  go_enter Tryz.func160, Tryz.ntmps160
  go_wp2
  go_ret
  exact ⟨rfl, (by repeat' (first | (with_reducible exact Below.refl _ _) | (with_reducible refine Below.drew ?_) | (with_reducible refine bo_drewN _ ?_) | (with_reducible refine bo_alloc ?_ _) | (refine bchain ?_ (by with_reducible assumption)) | (with_reducible refine Below.setCell ?_ ?_ _) | go_size))⟩

set_option maxHeartbeats 1000000 in
theorem eqFields (L : List Fd) (v v' : Value) (w : World) (hr0 : Reads w v L.length 2 (fv L)) (hr1 : Reads w v' L.length 2 (fv L)) :
    Calls Tryz.prog 138 #[v, v'] w fun x w' => x = .returned (.bool true) ∧ Below w.heap.size w w' := by
  obtain ⟨hl, ad, cap, rfl, h1, h2, h3⟩ := hr0
  obtain ⟨hl', ad', cap', rfl, h1', h2', h3'⟩ := hr1
  have H3 := hide h3
  have H3' := hide h3'
  clear h3 h3'
  unfold maxLen at h2 h2'
  go_enter Tryz.func138, Tryz.ntmps138
  go_wp2_with fail
  go_loopw [5] (fun i wr => ∃ (k : Nat), i = .int .i64 k ∧ k ≤ L.length ∧ Below w.heap.size w wr) (fun i _ => L.length - (intOf i).toNat)
  case atStart => exact ⟨0, rfl, Nat.zero_le _, Below.refl _ _⟩
  case round =>
    obtain ⟨k, rfl, hk, hb⟩ := hrel
    by_cases hlt : k < L.length
    · obtain ⟨b, o, rfl, hbw, hc⟩ := H3.out (by omega)
      obtain ⟨b', o', rfl, hbw', hc'⟩ := H3'.out (by omega)
      obtain ⟨s0, s1⟩ := fv_get L k hlt
      have c0 : wr.cell? ⟨b, o + k * 2, none⟩ = some (.string L[k].n) := by rw [hb.cell (p := ⟨b, o + k * 2, none⟩) hbw]; exact hc _ _ s0
      have c1 : wr.cell? ⟨b, o + k * 2 + 1, none⟩ = some (.string L[k].v) := by rw [hb.cell (p := ⟨b, o + k * 2 + 1, none⟩) hbw]; exact hc _ _ s1
      have d0 : wr.cell? ⟨b', o' + k * 2, none⟩ = some (.string L[k].n) := by rw [hb.cell (p := ⟨b', o' + k * 2, none⟩) hbw']; exact hc' _ _ s0
      have d1 : wr.cell? ⟨b', o' + k * 2 + 1, none⟩ = some (.string L[k].v) := by rw [hb.cell (p := ⟨b', o' + k * 2 + 1, none⟩) hbw']; exact hc' _ _ s1
      have hsb := hb.size
      have hb1 : b < wr.heap.size := by omega
      have hb2 : b' < wr.heap.size := by omega
      clear hc hc' s0 s1
      go_wp2_with fail
      have q0 : ∀ y : Later wr, y.w.cell? ⟨b, o + k * 2, none⟩ = some (.string L[k].n) := fun y => (y.b.cell (p := ⟨b, o + k * 2, none⟩) hb1).trans c0
      have q1 : ∀ y : Later wr, y.w.cell? ⟨b, o + k * 2 + 1, none⟩ = some (.string L[k].v) := fun y => (y.b.cell (p := ⟨b, o + k * 2 + 1, none⟩) hb1).trans c1
      have r0 : ∀ y : Later wr, y.w.cell? ⟨b', o' + k * 2, none⟩ = some (.string L[k].n) := fun y => (y.b.cell (p := ⟨b', o' + k * 2, none⟩) hb2).trans d0
      have r1 : ∀ y : Later wr, y.w.cell? ⟨b', o' + k * 2 + 1, none⟩ = some (.string L[k].v) := fun y => (y.b.cell (p := ⟨b', o' + k * 2 + 1, none⟩) hb2).trans d1
      clear c0 c1 d0 d1
      have hne : Nonempty (Later wr) := ⟨⟨wr, Below.refl _ _⟩⟩; refine region_later (by kernel_rfl) (by kernel_rfl) ?_
      repeat (go_big_quiet_step (fail))
      go_big_quiet_want; go_big_quiet_op; refine ⟨.bool true, fun y => later_calls (x := y) (eqField1 L[k] y.w), ?_⟩; go_big_quiet_on
      repeat (go_big_quiet_step (fail))
      refine wpQuiet_nil ?_; intro _ hw'; obtain ⟨y, hw''⟩ := hw'; subst hw''; have hby := y.b
      go_wp2_with fail
      go_roundw
      case rel => exact ⟨k + 1, by go_num, by omega, bchain hb hby⟩
      case measure => simp [intOf]; omega
    · go_wp2_with fail
      go_ret
      exact ⟨rfl, hb⟩

/-- The marks of a row of n texts, from k on. -/
def mkT (k n : Nat) : List Value := (List.range n).map fun j => .string (mtx (k + j))
theorem mkT_len (k n : Nat) : (mkT k n).length = n := by simp [mkT]
theorem mkT_get (k n j : Nat) (h : j < n) : (mkT k n)[j]? = some (.string (mtx (k + j))) := by simp [mkT, h]

set_option maxHeartbeats 1000000 in
theorem heldFields (n k : Nat) (v : Value) (w : World) (hr0 : Reads w v n 2 (mkT k (n * 2))) (hk1 : k + n * 2 ≤ 1000000000) :
    Calls Tryz.prog 92 #[v, .int .i64 k] w fun x w' => x = .returned (.int .i64 ((k + n * 2 : Nat) : Int)) ∧ Below w.heap.size w w' := by
  obtain ⟨hl, ad, cap, rfl, h1, h2, h3⟩ := hr0
  have H3 := hide h3
  clear h3
  unfold maxLen at h2
  go_enter Tryz.func92, Tryz.ntmps92
  go_wp2_with fail
  go_loopw [1, 5] (fun kk i wr => ∃ (j : Nat), i = .int .i64 j ∧ kk = .int .i64 ((k + j * 2 : Nat) : Int) ∧ j ≤ n ∧ Below w.heap.size w wr) (fun _ i _ => n - (intOf i).toNat)
  case atStart => exact ⟨0, rfl, by simp, Nat.zero_le _, Below.refl _ _⟩
  case round =>
    obtain ⟨j, rfl, rfl, hj, hb⟩ := hrel
    by_cases hlt : j < n
    · obtain ⟨b, o, rfl, hbw, hc⟩ := H3.out (by omega)
      obtain ⟨K, hK⟩ : ∃ K : Nat, K = k + j * 2 := ⟨_, rfl⟩
      have hK1 : k + (j * 2 + 1) = K + 1 := by omega
      have c0 : wr.cell? ⟨b, o + j * 2, none⟩ = some (.string (mtx K)) := by rw [hb.cell (p := ⟨b, o + j * 2, none⟩) hbw, hK]; exact hc _ _ (mkT_get k (n * 2) (j * 2) (by omega))
      have c1 : wr.cell? ⟨b, o + j * 2 + 1, none⟩ = some (.string (mtx (K + 1))) := by rw [hb.cell (p := ⟨b, o + j * 2 + 1, none⟩) hbw, ← hK1]; exact hc _ _ (mkT_get k (n * 2) (j * 2 + 1) (by omega))
      have hsb := hb.size
      have hb1 : b < wr.heap.size := by omega
      clear hc hK1
      have hkb : K + 1 ≤ 1000000000 := by omega
      rw [← hK]
      have HK := hide hK
      clear hK
      go_wp2_with fail
      have q0 : ∀ y : Later wr, y.w.cell? ⟨b, o + j * 2, none⟩ = some (.string (mtx K)) := fun y => (y.b.cell (p := ⟨b, o + j * 2, none⟩) hb1).trans c0
      have hne : Nonempty (Later wr) := ⟨⟨wr, Below.refl _ _⟩⟩; refine region_later (by kernel_rfl) (by kernel_rfl) ?_
      repeat (go_big_quiet_step (fail))
      go_big_quiet_want; go_big_quiet_op; refine ⟨.string (mtx K), fun y => later_calls (x := y) ((fun u => markTx K u (by omega)) y.w), ?_⟩; go_big_quiet_on
      repeat (go_big_quiet_step (fail))
      refine wpQuiet_nil ?_; intro _ hw'; obtain ⟨y, hw''⟩ := hw'; subst hw''; have hby := y.b
      clear q0 hne
      have c1' := (hby.cell (p := ⟨b, o + j * 2 + 1, none⟩) hb1).trans c1
      have hb1' : b < y.w.heap.size := Nat.lt_of_lt_of_le hb1 hby.size
      obtain ⟨wy, hwy⟩ : ∃ wy, wy = y.w := ⟨_, rfl⟩
      rw [← hwy] at hby c1' hb1' ⊢
      clear c0 c1 hwy y
      have hbb := bchain hb hby
      go_wp2_with fail
      have q1 : ∀ y : Later wy, y.w.cell? ⟨b, o + j * 2 + 1, none⟩ = some (.string (mtx (K + 1))) := fun y => (y.b.cell (p := ⟨b, o + j * 2 + 1, none⟩) hb1').trans c1'
      have hne : Nonempty (Later wy) := ⟨⟨wy, Below.refl _ _⟩⟩; refine region_later (by kernel_rfl) (by kernel_rfl) ?_
      repeat (go_big_quiet_step (fail))
      go_big_quiet_want; go_big_quiet_op; refine ⟨.string (mtx (K + 1)), fun y => later_calls (x := y) ((fun u => markTx (K + 1) u (by omega)) y.w), ?_⟩; go_big_quiet_on
      repeat (go_big_quiet_step (fail))
      refine wpQuiet_nil ?_; intro _ hw'; obtain ⟨y2, hw''⟩ := hw'; subst hw''; have hby2 := y2.b
      go_wp2_with fail
      go_roundw
      case rel => exact ⟨j + 1, by go_num, int_eq (by have := HK.out; omega), by omega, bchain hbb hby2⟩
      case measure => simp [intOf]; omega
    · obtain rfl : j = n := by omega
      go_wp2_with fail
      go_ret
      exact ⟨rfl, hb⟩

set_option maxHeartbeats 1000000 in
theorem markFields (n k : Nat) (v : Value) (xs : List Value) (lo : Nat) (w : World) (ho : w.ownsRow lo 160 2 v n xs) (hk1 : k + n * 2 ≤ 1000000000) :
    Calls Tryz.prog 88 #[v, .int .i64 k] w fun x w' => x = .returned (.int .i64 ((k + n * 2 : Nat) : Int)) ∧ w'.ownsRow lo 160 2 v n (mkT k (n * 2)) ∧ w.grownBy w' v.ownBlock := by
  obtain ⟨ad, cap, rfl, h1, h2⟩ := owns_form ho
  unfold maxLen at h2
  have HO := hide ho
  clear ho
  go_enter Tryz.func88, Tryz.ntmps88
  go_wp2_with fail
  go_loopw [1, 5] (fun kk i wr => ∃ (j : Nat) (ys : List Value), i = .int .i64 j ∧ kk = .int .i64 ((k + j * 2 : Nat) : Int) ∧ j ≤ n ∧ wr.ownsRow lo 160 2 (.slice ad n cap) n ys ∧ (∀ t, t < j * 2 → ys[t]? = (mkT k (n * 2))[t]?) ∧ w.grownBy wr (Value.slice ad n cap).ownBlock) (fun _ i _ => n - (intOf i).toNat)
  case atStart => exact ⟨0, _, rfl, by simp, Nat.zero_le _, HO.out, fun t ht => absurd ht (by omega), gb_refl _ _⟩
  case round =>
    obtain ⟨j, ys, rfl, rfl, hj, hown, hy, ht⟩ := hrel
    by_cases hlt : j < n
    · obtain ⟨K, hK⟩ : ∃ K : Nat, K = k + j * 2 := ⟨_, rfl⟩
      have hkb : K + 1 ≤ 1000000000 := by omega
      rw [← hK]
      have HK := hide hK
      have HT := hide ht
      have HY := hide hy
      have HOwn := hide hown
      clear hy hown hK ht
      go_wp2_with fail
      refine (markTx K _ (by omega)).mono ?_; rintro x w1 ⟨rfl, hb1⟩
      have hown1 := owns_new HOwn.out hb1
      obtain ⟨g, cap', e1, e2, e3, e4, _, _, e5, e6⟩ := owns_open hown1 (by omega)
      simp only [Value.slice.injEq] at e1
      obtain ⟨rfl, _, rfl⟩ := e1
      have hl1 := hown1.1
      obtain ⟨u0, hu0⟩ : ∃ u, w1.cell? ⟨g, j * 2, none⟩ = some u := ⟨_, e5 _ _ (List.getElem?_eq_getElem (by omega))⟩
      have HO1 := hide (owns_set (g := g) hown1 rfl (j * 2) (.string (mtx K)))
      have HP1 := hide (pre_set (j * 2 + 1) (a := .string (mtx K)) HY.out (by rw [mkT_get k (n * 2) (j * 2) (by omega), HK.out]) (by omega) rfl)
      have ht1 := hide (gb_set (gb_trans HT.out (gb_new hb1 _)) ⟨g, j * 2, none⟩ (.string (mtx K)) (by rfl))
      clear e5 e2 hown1
      go_wp2_with fail
      generalize w1.setCell ⟨g, j * 2, none⟩ (.string (mtx K)) = w2 at *
      refine (markTx (K + 1) _ (by omega)).mono ?_; rintro x w3 ⟨rfl, hb3⟩
      have hown3 := owns_new HO1.out hb3
      obtain ⟨g', cap'', f1, f2, f3, f4, _, _, f5, f6⟩ := owns_open hown3 (by omega)
      simp only [Value.slice.injEq, Option.some.injEq, Addr.mk.injEq] at f1
      obtain ⟨⟨rfl, _, _⟩, _, rfl⟩ := f1
      have hl3 := hown3.1
      obtain ⟨u1, hu1⟩ : ∃ u, w3.cell? ⟨g, j * 2 + 1, none⟩ = some u := ⟨_, f5 _ _ (List.getElem?_eq_getElem (by omega))⟩
      have HO3 := hide (owns_set (g := g) hown3 rfl (j * 2 + 1) (.string (mtx (K + 1))))
      have HP3 := hide (pre_set ((j + 1) * 2) (a := .string (mtx (K + 1))) HP1.out (by rw [mkT_get k (n * 2) (j * 2 + 1) (by omega), HK.out]; rfl) (by rw [List.length_set] at hl3 ⊢; omega) (by omega))
      have ht3 := hide (gb_set (gb_trans ht1.out (gb_new hb3 _)) ⟨g, j * 2 + 1, none⟩ (.string (mtx (K + 1))) (by rfl))
      clear f5 f2 hown3
      go_wp2_with fail
      exact ⟨⟨j + 1, _, by go_num, int_eq (by have := HK.out; omega), by omega, HO3.out, HP3.out, ht3.out⟩, by simp [intOf]; omega⟩
    · obtain rfl : j = n := by omega
      have hys : ys = mkT k (j * 2) := pre_end hown.1 (mkT_len _ _) hy
      subst hys
      go_wp2_with fail
      go_ret
      exact ⟨rfl, hown, ht⟩
end Go.Proofs.YtkhclhnejnpkeaaGreat
/- How long a mark's text is. -/
namespace Go.Proofs.YtkhclhnejnpkeaaGreat
open Go.RowKit
set_option maxRecDepth 100000
set_option linter.unusedSimpArgs false
set_option linter.unusedVariables false
theorem mtF_size : ∀ (n k : Nat) (acc : ByteArray), (mtF n k acc).size ≤ acc.size + n
  | 0, k, acc => by simp [mtF]
  | n + 1, k, acc => by
    unfold mtF
    split
    · omega
    · have := mtF_size n (k / 10) (strOf [48 + ((k % 10 : Nat) : Int)] ++ acc)
      rw [ByteArray.size_append, strOf_size] at this
      simp only [List.length_singleton] at this
      omega
theorem mtx_size (k : Nat) : (mtx k).size ≤ k + 2 := by
  unfold mtx
  split
  · have : (⟨#[109, 48]⟩ : ByteArray).size = 2 := rfl
    omega
  · have := mtF_size k k ⟨#[]⟩
    have h0 : (⟨#[]⟩ : ByteArray).size = 0 := rfl
    have h1 : (⟨#[109]⟩ : ByteArray).size = 1 := rfl
    rw [ByteArray.size_append]
    omega
end Go.Proofs.YtkhclhnejnpkeaaGreat
/- Chapter 16's model: TunnelOk; tunnels counted, copied, held against each other by the laws. -/
namespace Go.Proofs.YtkhclhnejnpkeaaGreat
open Go.RowKit
set_option maxRecDepth 100000
set_option linter.unusedSimpArgs false
set_option linter.unusedVariables false
set_option maxHeartbeats 1000000 in
theorem eqTunnel1 (t : TuD) (w : World) : Calls Tryz.prog 161 #[tuv t, tuv t] w fun x w' => x = .returned (.bool true) ∧ Below w.heap.size w w' := by
  obtain ⟨⟨r, b, e, k⟩, ⟨r2, b2, e2, k2⟩, wt, cm⟩ := t
  dsimp only [tuv] at *
  obtain ⟨W, hW⟩ : ∃ W, (w.alloc (.cells #[.int .i64 r, .string b, .bool e, .bool k, .int .i64 r2, .string b2, .bool e2, .bool k2, .int .i64 wt, .int .i64 cm] 123)).alloc (.cells #[.int .i64 r, .string b, .bool e, .bool k, .int .i64 r2, .string b2, .bool e2, .bool k2, .int .i64 wt, .int .i64 cm] 123) = W := ⟨_, rfl⟩
  have RX : RowIs W w.heap.size 123 [.int .i64 r, .string b, .bool e, .bool k, .int .i64 r2, .string b2, .bool e2, .bool k2, .int .i64 wt, .int .i64 cm] := by rw [← hW]; exact (rowIs_new w 123 [.int .i64 r, .string b, .bool e, .bool k, .int .i64 r2, .string b2, .bool e2, .bool k2, .int .i64 wt, .int .i64 cm]).alloc _
  have RY : RowIs W (w.heap.size + 1) 123 [.int .i64 r, .string b, .bool e, .bool k, .int .i64 r2, .string b2, .bool e2, .bool k2, .int .i64 wt, .int .i64 cm] := by have := rowIs_new (w.alloc (.cells #[.int .i64 r, .string b, .bool e, .bool k, .int .i64 r2, .string b2, .bool e2, .bool k2, .int .i64 wt, .int .i64 cm] 123)) 123 [.int .i64 r, .string b, .bool e, .bool k, .int .i64 r2, .string b2, .bool e2, .bool k2, .int .i64 wt, .int .i64 cm]; rw [hW] at this; simpa using this
  have HB : Below w.heap.size w W := by rw [← hW]; exact (((Below.refl _ _).alloc (Nat.le_refl _) _).alloc (by simp) _)
  have hw0 : (wt != wt) = false := by simp
  have hc0 : (cm != cm) = false := by simp
  go_enter Tryz.func161, Tryz.ntmps161
  have x0 := RowIs.cell (j := 0) RX rfl
  have x1 := RowIs.cell (j := 1) RX rfl
  have x2 := RowIs.cell (j := 2) RX rfl
  have x3 := RowIs.cell (j := 3) RX rfl
  have x4 := RowIs.cell (j := 4) RX rfl
  have x5 := RowIs.cell (j := 5) RX rfl
  have x6 := RowIs.cell (j := 6) RX rfl
  have x7 := RowIs.cell (j := 7) RX rfl
  have x8 := RowIs.cell (j := 8) RX rfl
  have x9 := RowIs.cell (j := 9) RX rfl
  have xf := fun j => RowIs.frozen RX j
  have xl := RX.lt
  have y0 := RowIs.cell (j := 0) RY rfl
  have y1 := RowIs.cell (j := 1) RY rfl
  have y2 := RowIs.cell (j := 2) RY rfl
  have y3 := RowIs.cell (j := 3) RY rfl
  have y4 := RowIs.cell (j := 4) RY rfl
  have y5 := RowIs.cell (j := 5) RY rfl
  have y6 := RowIs.cell (j := 6) RY rfl
  have y7 := RowIs.cell (j := 7) RY rfl
  have y8 := RowIs.cell (j := 8) RY rfl
  have y9 := RowIs.cell (j := 9) RY rfl
  have yf := fun j => RowIs.frozen RY j
  have yl := RY.lt
  go_wp2_with fail
  clear x0 x1 x2 x3 x4 x5 x6 x7 x8 x9 xf xl
  clear y0 y1 y2 y3 y4 y5 y6 y7 y8 y9 yf yl
  clear hW
  refine (eqP r b e k _).mono ?_; rintro x w1 ⟨rfl, hb⟩
  replace RX := RX.new hb
  replace RY := RY.new hb
  replace HB := bchain HB hb
  clear hb
  have x0 := RowIs.cell (j := 0) RX rfl
  have x1 := RowIs.cell (j := 1) RX rfl
  have x2 := RowIs.cell (j := 2) RX rfl
  have x3 := RowIs.cell (j := 3) RX rfl
  have x4 := RowIs.cell (j := 4) RX rfl
  have x5 := RowIs.cell (j := 5) RX rfl
  have x6 := RowIs.cell (j := 6) RX rfl
  have x7 := RowIs.cell (j := 7) RX rfl
  have x8 := RowIs.cell (j := 8) RX rfl
  have x9 := RowIs.cell (j := 9) RX rfl
  have xf := fun j => RowIs.frozen RX j
  have xl := RX.lt
  have y0 := RowIs.cell (j := 0) RY rfl
  have y1 := RowIs.cell (j := 1) RY rfl
  have y2 := RowIs.cell (j := 2) RY rfl
  have y3 := RowIs.cell (j := 3) RY rfl
  have y4 := RowIs.cell (j := 4) RY rfl
  have y5 := RowIs.cell (j := 5) RY rfl
  have y6 := RowIs.cell (j := 6) RY rfl
  have y7 := RowIs.cell (j := 7) RY rfl
  have y8 := RowIs.cell (j := 8) RY rfl
  have y9 := RowIs.cell (j := 9) RY rfl
  have yf := fun j => RowIs.frozen RY j
  have yl := RY.lt
  go_wp2_with fail
  clear x0 x1 x2 x3 x4 x5 x6 x7 x8 x9 xf xl
  clear y0 y1 y2 y3 y4 y5 y6 y7 y8 y9 yf yl
  refine (eqP r2 b2 e2 k2 _).mono ?_; rintro x w2 ⟨rfl, hb⟩
  replace RX := RX.new hb
  replace RY := RY.new hb
  replace HB := bchain HB hb
  clear hb
  have x0 := RowIs.cell (j := 0) RX rfl
  have x1 := RowIs.cell (j := 1) RX rfl
  have x2 := RowIs.cell (j := 2) RX rfl
  have x3 := RowIs.cell (j := 3) RX rfl
  have x4 := RowIs.cell (j := 4) RX rfl
  have x5 := RowIs.cell (j := 5) RX rfl
  have x6 := RowIs.cell (j := 6) RX rfl
  have x7 := RowIs.cell (j := 7) RX rfl
  have x8 := RowIs.cell (j := 8) RX rfl
  have x9 := RowIs.cell (j := 9) RX rfl
  have xf := fun j => RowIs.frozen RX j
  have xl := RX.lt
  have y0 := RowIs.cell (j := 0) RY rfl
  have y1 := RowIs.cell (j := 1) RY rfl
  have y2 := RowIs.cell (j := 2) RY rfl
  have y3 := RowIs.cell (j := 3) RY rfl
  have y4 := RowIs.cell (j := 4) RY rfl
  have y5 := RowIs.cell (j := 5) RY rfl
  have y6 := RowIs.cell (j := 6) RY rfl
  have y7 := RowIs.cell (j := 7) RY rfl
  have y8 := RowIs.cell (j := 8) RY rfl
  have y9 := RowIs.cell (j := 9) RY rfl
  have yf := fun j => RowIs.frozen RY j
  have yl := RY.lt
  go_wp2_with fail
  go_ret
  exact ⟨rfl, HB⟩
end Go.Proofs.YtkhclhnejnpkeaaGreat
/- Tokens in plain words: the mac, numbers as texts and back, texts parted at a sign. -/
namespace Go.Proofs.YtkhclhnejnpkeaaGreat
open Go.RowKit
set_option maxRecDepth 100000
set_option linter.unusedSimpArgs false
set_option linter.unusedVariables false
def nameB (s : ByteArray) : Bool := (bys s).all (fun b => inB b 97 122) && inB (s.size : Int) 1 20
end Go.Proofs.YtkhclhnejnpkeaaGreat
/- Rows of int64: copied, held against each other, marked, read again, counted. -/
namespace Go.Proofs.YtkhclhnejnpkeaaGreat
open Go.RowKit
set_option maxRecDepth 100000
set_option linter.unusedSimpArgs false
set_option linter.unusedVariables false

/-- n marks, from k on. -/
def mk (k : Int) (n : Nat) : List Value := (List.range n).map fun (j : Nat) => Value.int .i64 (k + j)
end Go.Proofs.YtkhclhnejnpkeaaGreat
/- Chapter 8's program: Granted, Used, Moved, Fits; what a window becomes is handed on as a method expression. -/
namespace Go.Proofs.YtkhclhnejnpkeaaGreat
open Go.RowKit
set_option maxRecDepth 100000
set_option linter.unusedSimpArgs false
set_option linter.unusedVariables false
theorem implWin (x : Int) (w : World) : Calls Tryz.prog 110 #[.int .i64 x] w fun e w' => e = .returned (.bool (winB x)) ∧ w' = w := by
  go_enter Tryz.func110, Tryz.ntmps110
  go_wp2_with fail
  refine (implWithin _ _ _ _).mono ?_; rintro e w1 ⟨rfl, hsame⟩; obtain rfl := hsame.symm; clear hsame
  go_wp2_with fail
  go_ret
  exact ⟨rfl, rfl⟩
end Go.Proofs.YtkhclhnejnpkeaaGreat
/- Chapter 16's program: lanes that embed a way up and a way down; in, out, back. -/
namespace Go.Proofs.YtkhclhnejnpkeaaGreat
open Go.RowKit
set_option maxRecDepth 100000
set_option linter.unusedSimpArgs false
set_option linter.unusedVariables false
abbrev lnv (t : TuD) : Value := .agg #[.int .i64 t.up.r, .string t.up.b, .bool t.up.e, .bool t.up.k, .int .i64 t.went, .int .i64 t.dn.r, .string t.dn.b, .bool t.dn.e, .bool t.dn.k, .int .i64 t.came]
set_option maxHeartbeats 1000000 in
theorem lanes16 (t : TuD) (w : World) : Calls Tryz.prog 152 #[tuv t] w fun x w' => x = .returned (lnv t) ∧ Below w.heap.size w w' := by
  obtain ⟨⟨r, b, e, k⟩, ⟨r2, b2, e2, k2⟩, wt, cm⟩ := t
  dsimp only [tuv, lnv] at *
  obtain ⟨W, hW⟩ : ∃ W, ((w.alloc (.cells #[.int .i64 r, .string b, .bool e, .bool k, .int .i64 r2, .string b2, .bool e2, .bool k2, .int .i64 wt, .int .i64 cm] 123)).alloc (.cells #[.int .i64 0, .string ⟨#[]⟩, .bool false, .bool false, .int .i64 0, .int .i64 0, .string ⟨#[]⟩, .bool false, .bool false, .int .i64 0] 224)) = W := ⟨_, rfl⟩
  have RX : RowIs W w.heap.size 123 [.int .i64 r, .string b, .bool e, .bool k, .int .i64 r2, .string b2, .bool e2, .bool k2, .int .i64 wt, .int .i64 cm] := by rw [← hW]; exact (rowIs_new w 123 [.int .i64 r, .string b, .bool e, .bool k, .int .i64 r2, .string b2, .bool e2, .bool k2, .int .i64 wt, .int .i64 cm]).alloc _
  have RY : RowIs W (w.heap.size + 1) 224 [.int .i64 0, .string ⟨#[]⟩, .bool false, .bool false, .int .i64 0, .int .i64 0, .string ⟨#[]⟩, .bool false, .bool false, .int .i64 0] := by have := rowIs_new (w.alloc (.cells #[.int .i64 r, .string b, .bool e, .bool k, .int .i64 r2, .string b2, .bool e2, .bool k2, .int .i64 wt, .int .i64 cm] 123)) 224 [.int .i64 0, .string ⟨#[]⟩, .bool false, .bool false, .int .i64 0, .int .i64 0, .string ⟨#[]⟩, .bool false, .bool false, .int .i64 0]; rw [hW] at this; simpa using this
  have HB : Below w.heap.size w W := by rw [← hW]; exact (((Below.refl _ _).alloc (Nat.le_refl _) _).alloc (by simp) _)
  go_enter Tryz.func152, Tryz.ntmps152
  have x0 := RowIs.cell (j := 0) RX rfl
  have x1 := RowIs.cell (j := 1) RX rfl
  have x2 := RowIs.cell (j := 2) RX rfl
  have x3 := RowIs.cell (j := 3) RX rfl
  have x4 := RowIs.cell (j := 4) RX rfl
  have x5 := RowIs.cell (j := 5) RX rfl
  have x6 := RowIs.cell (j := 6) RX rfl
  have x7 := RowIs.cell (j := 7) RX rfl
  have x8 := RowIs.cell (j := 8) RX rfl
  have x9 := RowIs.cell (j := 9) RX rfl
  have xf := fun j => RowIs.frozen RX j
  have xl := RX.lt
  go_wp2_with (refine wpList_store_row (by rfl) 224 _ _ (by rfl) (w.heap.size + 1) [.int .i64 r, .string b, .bool e, .bool k, .int .i64 wt, .int .i64 r2, .string b2, .bool e2, .bool k2, .int .i64 cm] (by rfl) (by rfl) 224 [.int .i64 0, .string ⟨#[]⟩, .bool false, .bool false, .int .i64 0, .int .i64 0, .string ⟨#[]⟩, .bool false, .bool false, .int .i64 0] RY (by kernel_rfl) rfl (by intro u hu; simp at hu; rcases hu with rfl | rfl | rfl | rfl | rfl | rfl | rfl | rfl | rfl | rfl <;> rfl) ?_)
  clear x0 x1 x2 x3 x4 x5 x6 x7 x8 x9 xf xl
  clear hW
  have NRX := RX.kept (setRow_other W (w.heap.size + 1) #[.int .i64 r, .string b, .bool e, .bool k, .int .i64 wt, .int .i64 r2, .string b2, .bool e2, .bool k2, .int .i64 cm] w.heap.size (by omega))
  have NRY : RowIs (W.setRow (w.heap.size + 1) #[.int .i64 r, .string b, .bool e, .bool k, .int .i64 wt, .int .i64 r2, .string b2, .bool e2, .bool k2, .int .i64 cm]) (w.heap.size + 1) 224 [.int .i64 r, .string b, .bool e, .bool k, .int .i64 wt, .int .i64 r2, .string b2, .bool e2, .bool k2, .int .i64 cm] := rowIs_setRow (cs' := [.int .i64 r, .string b, .bool e, .bool k, .int .i64 wt, .int .i64 r2, .string b2, .bool e2, .bool k2, .int .i64 cm]) RY
  have NHB := below_setRow HB (show w.heap.size ≤ (w.heap.size + 1) by omega) #[.int .i64 r, .string b, .bool e, .bool k, .int .i64 wt, .int .i64 r2, .string b2, .bool e2, .bool k2, .int .i64 cm]
  generalize hV : W.setRow (w.heap.size + 1) #[.int .i64 r, .string b, .bool e, .bool k, .int .i64 wt, .int .i64 r2, .string b2, .bool e2, .bool k2, .int .i64 cm] = V1 at *
  clear hV
  clear RX
  have RX := NRX
  clear NRX
  clear RY
  have RY := NRY
  clear NRY
  clear HB
  have HB := NHB
  clear NHB
  have y0 := RowIs.cell (j := 0) RY rfl
  have y1 := RowIs.cell (j := 1) RY rfl
  have y2 := RowIs.cell (j := 2) RY rfl
  have y3 := RowIs.cell (j := 3) RY rfl
  have y4 := RowIs.cell (j := 4) RY rfl
  have y5 := RowIs.cell (j := 5) RY rfl
  have y6 := RowIs.cell (j := 6) RY rfl
  have y7 := RowIs.cell (j := 7) RY rfl
  have y8 := RowIs.cell (j := 8) RY rfl
  have y9 := RowIs.cell (j := 9) RY rfl
  have yf := fun j => RowIs.frozen RY j
  have yl := RY.lt
  refine bodyPost_ret (v := .agg #[.int .i64 r, .string b, .bool e, .bool k, .int .i64 wt, .int .i64 r2, .string b2, .bool e2, .bool k2, .int .i64 cm]) (by simp [results, Tryz.results152, go_sem, *]) rfl ?_
  exact ⟨rfl, HB⟩
set_option maxHeartbeats 1000000 in
theorem lanesRight16 (t : TuD) (w : World) (h1 : t.up.b.size ≤ maxLen) (h2 : t.dn.b.size ≤ maxLen) : Calls Tryz.prog 153 #[lnv t] w fun x w' => x = .returned (.bool (okTu t)) ∧ Below w.heap.size w w' := by
  obtain ⟨⟨r, b, e, k⟩, ⟨r2, b2, e2, k2⟩, wt, cm⟩ := t
  unfold okTu
  dsimp only [lnv] at *
  have RX := rowIs_new w 224 [.int .i64 r, .string b, .bool e, .bool k, .int .i64 wt, .int .i64 r2, .string b2, .bool e2, .bool k2, .int .i64 cm]
  have HB : Below w.heap.size w (w.alloc (.cells #[.int .i64 r, .string b, .bool e, .bool k, .int .i64 wt, .int .i64 r2, .string b2, .bool e2, .bool k2, .int .i64 cm] 224)) := (Below.refl _ _).alloc (Nat.le_refl _) _
  cases hu : okPp ⟨r, b, e, k⟩
  · go_enter Tryz.func153, Tryz.ntmps153
    go_wp2_with fail
    refine (right r b e k _ h1).mono ?_; rw [show okB r b k = _ from hu]; rintro x w1 ⟨rfl, hb⟩
    replace RX := RX.new hb
    replace HB := bchain HB hb
    clear hb
    have x0 := RowIs.cell (j := 0) RX rfl
    have x1 := RowIs.cell (j := 1) RX rfl
    have x2 := RowIs.cell (j := 2) RX rfl
    have x3 := RowIs.cell (j := 3) RX rfl
    have x4 := RowIs.cell (j := 4) RX rfl
    have x5 := RowIs.cell (j := 5) RX rfl
    have x6 := RowIs.cell (j := 6) RX rfl
    have x7 := RowIs.cell (j := 7) RX rfl
    have x8 := RowIs.cell (j := 8) RX rfl
    have x9 := RowIs.cell (j := 9) RX rfl
    have xf := fun j => RowIs.frozen RX j
    have xl := RX.lt
    go_wp2_with fail
    go_ret
    exact ⟨rfl, HB⟩
  cases hd : okPp ⟨r2, b2, e2, k2⟩
  · go_enter Tryz.func153, Tryz.ntmps153
    go_wp2_with fail
    refine (right r b e k _ h1).mono ?_; rw [show okB r b k = _ from hu]; rintro x w1 ⟨rfl, hb⟩
    replace RX := RX.new hb
    replace HB := bchain HB hb
    clear hb
    have x0 := RowIs.cell (j := 0) RX rfl
    have x1 := RowIs.cell (j := 1) RX rfl
    have x2 := RowIs.cell (j := 2) RX rfl
    have x3 := RowIs.cell (j := 3) RX rfl
    have x4 := RowIs.cell (j := 4) RX rfl
    have x5 := RowIs.cell (j := 5) RX rfl
    have x6 := RowIs.cell (j := 6) RX rfl
    have x7 := RowIs.cell (j := 7) RX rfl
    have x8 := RowIs.cell (j := 8) RX rfl
    have x9 := RowIs.cell (j := 9) RX rfl
    have xf := fun j => RowIs.frozen RX j
    have xl := RX.lt
    go_wp2_with fail
    clear x0 x1 x2 x3 x4 x5 x6 x7 x8 x9 xf xl
    refine (right r2 b2 e2 k2 _ h2).mono ?_; rw [show okB r2 b2 k2 = _ from hd]; rintro x w2 ⟨rfl, hb⟩
    replace RX := RX.new hb
    replace HB := bchain HB hb
    clear hb
    have x0 := RowIs.cell (j := 0) RX rfl
    have x1 := RowIs.cell (j := 1) RX rfl
    have x2 := RowIs.cell (j := 2) RX rfl
    have x3 := RowIs.cell (j := 3) RX rfl
    have x4 := RowIs.cell (j := 4) RX rfl
    have x5 := RowIs.cell (j := 5) RX rfl
    have x6 := RowIs.cell (j := 6) RX rfl
    have x7 := RowIs.cell (j := 7) RX rfl
    have x8 := RowIs.cell (j := 8) RX rfl
    have x9 := RowIs.cell (j := 9) RX rfl
    have xf := fun j => RowIs.frozen RX j
    have xl := RX.lt
    go_wp2_with fail
    go_ret
    exact ⟨rfl, HB⟩
  cases hw : inB wt 0 1000000
  · go_enter Tryz.func153, Tryz.ntmps153
    go_wp2_with fail
    refine (right r b e k _ h1).mono ?_; rw [show okB r b k = _ from hu]; rintro x w1 ⟨rfl, hb⟩
    replace RX := RX.new hb
    replace HB := bchain HB hb
    clear hb
    have x0 := RowIs.cell (j := 0) RX rfl
    have x1 := RowIs.cell (j := 1) RX rfl
    have x2 := RowIs.cell (j := 2) RX rfl
    have x3 := RowIs.cell (j := 3) RX rfl
    have x4 := RowIs.cell (j := 4) RX rfl
    have x5 := RowIs.cell (j := 5) RX rfl
    have x6 := RowIs.cell (j := 6) RX rfl
    have x7 := RowIs.cell (j := 7) RX rfl
    have x8 := RowIs.cell (j := 8) RX rfl
    have x9 := RowIs.cell (j := 9) RX rfl
    have xf := fun j => RowIs.frozen RX j
    have xl := RX.lt
    go_wp2_with fail
    clear x0 x1 x2 x3 x4 x5 x6 x7 x8 x9 xf xl
    refine (right r2 b2 e2 k2 _ h2).mono ?_; rw [show okB r2 b2 k2 = _ from hd]; rintro x w2 ⟨rfl, hb⟩
    replace RX := RX.new hb
    replace HB := bchain HB hb
    clear hb
    have x0 := RowIs.cell (j := 0) RX rfl
    have x1 := RowIs.cell (j := 1) RX rfl
    have x2 := RowIs.cell (j := 2) RX rfl
    have x3 := RowIs.cell (j := 3) RX rfl
    have x4 := RowIs.cell (j := 4) RX rfl
    have x5 := RowIs.cell (j := 5) RX rfl
    have x6 := RowIs.cell (j := 6) RX rfl
    have x7 := RowIs.cell (j := 7) RX rfl
    have x8 := RowIs.cell (j := 8) RX rfl
    have x9 := RowIs.cell (j := 9) RX rfl
    have xf := fun j => RowIs.frozen RX j
    have xl := RX.lt
    go_wp2_with fail
    refine (implWithin _ _ _ _).mono ?_; rw [hw]; rintro e w7 ⟨rfl, hsame⟩; obtain rfl := hsame.symm; clear hsame
    go_wp2_with fail
    go_ret
    exact ⟨rfl, HB⟩
  cases hm : inB cm 0 1000000
  · go_enter Tryz.func153, Tryz.ntmps153
    go_wp2_with fail
    refine (right r b e k _ h1).mono ?_; rw [show okB r b k = _ from hu]; rintro x w1 ⟨rfl, hb⟩
    replace RX := RX.new hb
    replace HB := bchain HB hb
    clear hb
    have x0 := RowIs.cell (j := 0) RX rfl
    have x1 := RowIs.cell (j := 1) RX rfl
    have x2 := RowIs.cell (j := 2) RX rfl
    have x3 := RowIs.cell (j := 3) RX rfl
    have x4 := RowIs.cell (j := 4) RX rfl
    have x5 := RowIs.cell (j := 5) RX rfl
    have x6 := RowIs.cell (j := 6) RX rfl
    have x7 := RowIs.cell (j := 7) RX rfl
    have x8 := RowIs.cell (j := 8) RX rfl
    have x9 := RowIs.cell (j := 9) RX rfl
    have xf := fun j => RowIs.frozen RX j
    have xl := RX.lt
    go_wp2_with fail
    clear x0 x1 x2 x3 x4 x5 x6 x7 x8 x9 xf xl
    refine (right r2 b2 e2 k2 _ h2).mono ?_; rw [show okB r2 b2 k2 = _ from hd]; rintro x w2 ⟨rfl, hb⟩
    replace RX := RX.new hb
    replace HB := bchain HB hb
    clear hb
    have x0 := RowIs.cell (j := 0) RX rfl
    have x1 := RowIs.cell (j := 1) RX rfl
    have x2 := RowIs.cell (j := 2) RX rfl
    have x3 := RowIs.cell (j := 3) RX rfl
    have x4 := RowIs.cell (j := 4) RX rfl
    have x5 := RowIs.cell (j := 5) RX rfl
    have x6 := RowIs.cell (j := 6) RX rfl
    have x7 := RowIs.cell (j := 7) RX rfl
    have x8 := RowIs.cell (j := 8) RX rfl
    have x9 := RowIs.cell (j := 9) RX rfl
    have xf := fun j => RowIs.frozen RX j
    have xl := RX.lt
    go_wp2_with fail
    refine (implWithin _ _ _ _).mono ?_; rw [hw]; rintro e w7 ⟨rfl, hsame⟩; obtain rfl := hsame.symm; clear hsame
    go_wp2_with fail
    refine (implWithin _ _ _ _).mono ?_; rw [hm]; rintro e w8 ⟨rfl, hsame⟩; obtain rfl := hsame.symm; clear hsame
    go_wp2_with fail
    go_ret
    exact ⟨rfl, HB⟩
  go_enter Tryz.func153, Tryz.ntmps153
  go_wp2_with fail
  refine (right r b e k _ h1).mono ?_; rw [show okB r b k = _ from hu]; rintro x w1 ⟨rfl, hb⟩
  replace RX := RX.new hb
  replace HB := bchain HB hb
  clear hb
  have x0 := RowIs.cell (j := 0) RX rfl
  have x1 := RowIs.cell (j := 1) RX rfl
  have x2 := RowIs.cell (j := 2) RX rfl
  have x3 := RowIs.cell (j := 3) RX rfl
  have x4 := RowIs.cell (j := 4) RX rfl
  have x5 := RowIs.cell (j := 5) RX rfl
  have x6 := RowIs.cell (j := 6) RX rfl
  have x7 := RowIs.cell (j := 7) RX rfl
  have x8 := RowIs.cell (j := 8) RX rfl
  have x9 := RowIs.cell (j := 9) RX rfl
  have xf := fun j => RowIs.frozen RX j
  have xl := RX.lt
  go_wp2_with fail
  clear x0 x1 x2 x3 x4 x5 x6 x7 x8 x9 xf xl
  refine (right r2 b2 e2 k2 _ h2).mono ?_; rw [show okB r2 b2 k2 = _ from hd]; rintro x w2 ⟨rfl, hb⟩
  replace RX := RX.new hb
  replace HB := bchain HB hb
  clear hb
  have x0 := RowIs.cell (j := 0) RX rfl
  have x1 := RowIs.cell (j := 1) RX rfl
  have x2 := RowIs.cell (j := 2) RX rfl
  have x3 := RowIs.cell (j := 3) RX rfl
  have x4 := RowIs.cell (j := 4) RX rfl
  have x5 := RowIs.cell (j := 5) RX rfl
  have x6 := RowIs.cell (j := 6) RX rfl
  have x7 := RowIs.cell (j := 7) RX rfl
  have x8 := RowIs.cell (j := 8) RX rfl
  have x9 := RowIs.cell (j := 9) RX rfl
  have xf := fun j => RowIs.frozen RX j
  have xl := RX.lt
  go_wp2_with fail
  refine (implWithin _ _ _ _).mono ?_; rw [hw]; rintro e w7 ⟨rfl, hsame⟩; obtain rfl := hsame.symm; clear hsame
  go_wp2_with fail
  refine (implWithin _ _ _ _).mono ?_; rw [hm]; rintro e w8 ⟨rfl, hsame⟩; obtain rfl := hsame.symm; clear hsame
  go_wp2_with fail
  go_ret
  exact ⟨rfl, HB⟩
set_option maxHeartbeats 1000000 in
theorem implTunnelOk (t : TuD) (w : World) (h1 : t.up.b.size ≤ maxLen) (h2 : t.dn.b.size ≤ maxLen) : Calls Tryz.prog 130 #[tuv t] w fun x w' => x = .returned (.bool (okTu t)) ∧ Below w.heap.size w w' := by
  obtain ⟨⟨r, b, e, k⟩, ⟨r2, b2, e2, k2⟩, wt, cm⟩ := t
  dsimp only [tuv] at *
  obtain ⟨W, hW⟩ : ∃ W, (w.alloc (.cells #[.int .i64 r, .string b, .bool e, .bool k, .int .i64 r2, .string b2, .bool e2, .bool k2, .int .i64 wt, .int .i64 cm] 123)) = W := ⟨_, rfl⟩
  have RX : RowIs W w.heap.size 123 [.int .i64 r, .string b, .bool e, .bool k, .int .i64 r2, .string b2, .bool e2, .bool k2, .int .i64 wt, .int .i64 cm] := by rw [← hW]; exact rowIs_new w 123 [.int .i64 r, .string b, .bool e, .bool k, .int .i64 r2, .string b2, .bool e2, .bool k2, .int .i64 wt, .int .i64 cm]
  have HB : Below w.heap.size w W := by rw [← hW]; exact (Below.refl _ _).alloc (Nat.le_refl _) _
  have hri := fun (u : World) => lanesRight16 ⟨⟨r, b, e, k⟩, ⟨r2, b2, e2, k2⟩, wt, cm⟩ u h1 h2
  go_enter Tryz.func130, Tryz.ntmps130
  go_wp2_with (refine wpList_load_row (by rfl) 123 _ (by rfl) w.heap.size (by rfl) [.int .i64 r, .string b, .bool e, .bool k, .int .i64 r2, .string b2, .bool e2, .bool k2, .int .i64 wt, .int .i64 cm] _ 123 RX Tryz.underlying123 rfl (by kernel_rfl) ?_)
  clear hW
  refine (lanes16 ⟨⟨r, b, e, k⟩, ⟨r2, b2, e2, k2⟩, wt, cm⟩ _).mono ?_; rintro x w1 ⟨rfl, hb⟩
  replace RX := RX.new hb
  replace HB := bchain HB hb
  clear hb
  go_wp2_with fail
  refine (hri _).mono ?_; rintro x w2 ⟨rfl, hb⟩
  replace RX := RX.new hb
  replace HB := bchain HB hb
  clear hb
  go_wp2_with fail
  go_ret
  exact ⟨rfl, HB⟩
end Go.Proofs.YtkhclhnejnpkeaaGreat
/- A run of cells in the midst of a block: read, written cell by cell, with what lies ahead and behind. -/
namespace Go.Proofs.YtkhclhnejnpkeaaGreat
open Go.RowKit
set_option maxRecDepth 100000
set_option linter.unusedSimpArgs false
set_option linter.unusedVariables false

/-- The cells cs lie in block b from o on; A lies ahead of them, C behind. -/
structure MidIs (w : World) (b : Nat) (ty : TypeId) (A C : List Value) (o : Nat) (cs : List Value) : Prop where
  row : RowIs w b ty (A ++ cs ++ C)
  off : A.length = o
section
variable {w w' : World} {b o : Nat} {ty : TypeId} {A C cs : List Value}
theorem MidIs.lt (h : MidIs w b ty A C o cs) : b < w.heap.size := h.row.lt
theorem mid_get (A cs C : List Value) {j : Nat} {u : Value} (hu : cs[j]? = some u) : (A ++ cs ++ C)[A.length + j]? = some u := by
  have hj : j < cs.length := (List.getElem?_eq_some_iff.1 hu).1
  rw [List.append_assoc, List.getElem?_append_right (by omega), Nat.add_sub_cancel_left, List.getElem?_append_left hj]
  exact hu
theorem MidIs.cell (h : MidIs w b ty A C o cs) {j : Nat} {u : Value} (hu : cs[j]? = some u) : w.cell? ⟨b, o + j, none⟩ = some u := by
  have := h.off
  subst this
  exact h.row.cell (mid_get A cs C hu)
theorem MidIs.frozen (h : MidIs w b ty A C o cs) (j : Nat) : w.frozen? ⟨b, j, none⟩ = false := h.row.frozen j
theorem MidIs.kept (h : MidIs w b ty A C o cs) (hk : w'.heap[b]? = w.heap[b]?) : MidIs w' b ty A C o cs := ⟨h.row.kept hk, h.off⟩
theorem MidIs.new (h : MidIs w b ty A C o cs) (hb : Below w.heap.size w w') : MidIs w' b ty A C o cs := ⟨h.row.new hb, h.off⟩
theorem MidIs.alloc (h : MidIs w b ty A C o cs) (x : Obj) : MidIs (w.alloc x) b ty A C o cs := ⟨h.row.alloc x, h.off⟩
theorem MidIs.far (h : MidIs w b ty A C o cs) (p : Addr) (v : Value) (hp : p.block ≠ b) : MidIs (w.setCell p v) b ty A C o cs := ⟨h.row.far p v hp, h.off⟩
theorem MidIs.drewN (h : MidIs w b ty A C o cs) (n : Nat) : MidIs (w.drewN n) b ty A C o cs := ⟨h.row.drewN n, h.off⟩
theorem mid_set (A cs C : List Value) (j : Nat) (hj : j < cs.length) (v : Value) : (A ++ cs ++ C).set (A.length + j) v = A ++ cs.set j v ++ C := by
  rw [List.append_assoc, List.set_append_right _ _ (by omega), Nat.add_sub_cancel_left, List.set_append_left _ _ hj, List.append_assoc]
theorem MidIs.set (h : MidIs w b ty A C o cs) (j : Nat) (v : Value) (hj : j < cs.length) : MidIs (w.setCell ⟨b, o + j, none⟩ v) b ty A C o (cs.set j v) := by
  have e := h.off
  subst e
  refine ⟨?_, rfl⟩
  rw [← mid_set A cs C j hj v]
  exact h.row.set _ v
end
/-- What a row's block may have become: the same, or a new one. -/
def Newer (w : World) (v v' : Value) : Prop := ∀ k, v'.ownBlock = some k → v.ownBlock = some k ∨ w.heap.size ≤ k
theorem Newer.refl (w : World) (v : Value) : Newer w v v := fun _ h => .inl h
theorem Newer.trans {w w' : World} {a b c : Value} (h : Newer w a b) (k : Newer w' b c) (hs : w.heap.size ≤ w'.heap.size) : Newer w a c := fun q hq => by
  rcases k q hq with e | e
  · exact h q e
  · exact .inr (Nat.le_trans hs e)
end Go.Proofs.YtkhclhnejnpkeaaGreat
