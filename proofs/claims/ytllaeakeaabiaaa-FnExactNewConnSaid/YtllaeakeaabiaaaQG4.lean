/- Several small texts of one level, one behind the other. -/
import Derived.Test.YtllaeakeaabiaaaQG3
import Derived.Test.YtllaeakeaabiaaaQG2
import Derived.Handy
import Derived.Lib.ConvBytes
import Derived.Deep.RegionLaw
import Derived.Deep.DrawnRows
import Derived.Lib.SmallJoins
import Derived.Lib.EndianBits
import Derived.WalkKit
import Derived.ProofKit
import Derived.OpenShut
import Derived.Laws.Cover1
/- Rows of whatever make: a row that is being filled, marks, sums. -/
namespace Go.Proofs.Ytllaeakeaabiaaa
open Go.RowKit
set_option maxRecDepth 100000
set_option linter.unusedSimpArgs false
set_option linter.unusedVariables false

section
variable {D : Type} (E : Shp D)
/-- A new row of as many elements as L has, of which the first k are filled with L's. -/
def Filling (w wr : World) (L : List D) (k : Nat) : Prop :=
  k ≤ L.length ∧ Below w.heap.size w wr ∧ w.heap.size < wr.heap.size ∧ ∃ (ts : List (List Value × D × List Nat)) (R : List Value), ts.map (·.2.1) = L.take k ∧ R.length = (L.length - k) * E.size ∧
    wr.ownsRow 0 E.ty E.size (.slice (some ⟨w.heap.size, 0, none⟩) L.length L.length) L.length (ts.flatMap (·.1) ++ R) ∧
    (∀ t ∈ ts, E.own wr t.1 t.2.1 t.2.2) ∧ (ts.flatMap (·.2.2)).Nodup ∧ ∀ b ∈ ts.flatMap (·.2.2), w.heap.size < b
variable {E}
theorem filling_start {w : World} {M : Array Value} {L : List D} (ho : (w.alloc (.cells M E.ty)).ownsRow w.heap.size E.ty E.size (.slice (some ⟨w.heap.size, 0, none⟩) L.length L.length) L.length M.toList) : Filling E w (w.alloc (.cells M E.ty)) L 0 :=
  ⟨Nat.zero_le _, (Below.refl _ _).alloc (Nat.le_refl _) _, by simp, [], M.toList, by simp, by simpa using ho.1, by simpa using owns_base ho (fun k hk => Nat.zero_le _), by simp, by simp, by simp⟩
theorem filling_step {w wr w1 : World} {L : List D} {k : Nat} {cs : List Value} (h : Filling E w wr L k) (hk : k < L.length) (hb : Below wr.heap.size wr w1) (hd : OwE E w1 wr.heap.size w1.heap.size cs L[k]) :
    (∀ r, r < E.size → ∃ u, w1.cell? ⟨w.heap.size, k * E.size + r, none⟩ = some u) ∧ (∀ j, w1.frozen? ⟨w.heap.size, j, none⟩ = false) ∧ w.heap.size < w1.heap.size ∧ Filling E w (setsFrom w1 w.heap.size (k * E.size) cs) L (k + 1) := by
  obtain ⟨hle, hbw, hlt, ts, R, hts, hR, ho, hE, hnd, hlo⟩ := h
  obtain ⟨b2, hd1, hd2, hd3⟩ := hd
  have ho1 := owns_new ho hb
  have hlen : ∀ t ∈ ts, t.1.length = E.size := fun t ht => E.rd_len (E.own_rd (hE t ht))
  have htl : ts.length = k := by have := congrArg List.length hts; simp at this; omega
  have hfl : (ts.flatMap (fun t : List Value × D × List Nat => t.1)).length = k * E.size := by rw [flat_len _ E.size ts hlen, htl]
  have hcl := E.rd_len (E.own_rd hd1)
  have hsz : (L.length - k) * E.size = E.size + (L.length - (k + 1)) * E.size := by
    rw [show L.length - k = (L.length - (k + 1)) + 1 by omega, Nat.succ_mul]; omega
  obtain ⟨g, cap, e1, hg, _, hgl, _, _, hc, hf⟩ := owns_open ho1 (by omega)
  simp only [Value.slice.injEq, Option.some.injEq, Addr.mk.injEq] at e1
  obtain ⟨⟨rfl, _, _⟩, _, _⟩ := e1
  refine ⟨fun r hr => ?_, hf, by have := hb.size; omega, by omega, ?_, ?_, ts ++ [(cs, L[k], b2)], R.drop E.size, ?_, ?_, ?_, ?_, ?_, ?_⟩
  · have hin : k * E.size + r < (ts.flatMap (fun t : List Value × D × List Nat => t.1) ++ R).length := by rw [List.length_append, hfl, hR]; omega
    exact ⟨_, hc _ _ (List.getElem?_eq_getElem hin)⟩
  · exact setsFrom_below _ (Nat.le_refl _) _ _ _ (hbw.trans (hb.mono hbw.size))
  · rw [setsFrom_size]; have := hb.size; omega
  · rw [List.map_append, hts, List.take_succ_eq_append_getElem hk]; rfl
  · rw [List.length_drop, hR, hsz]; omega
  · have ho2 : w1.ownsRow 0 E.ty E.size (.slice (some ⟨w.heap.size, 0, none⟩) L.length L.length) L.length (ts.flatMap (·.1) ++ R.take E.size ++ R.drop E.size) := by rw [List.append_assoc, List.take_append_drop]; exact ho1
    have := owns_sets hg cs w1 _ _ _ ho2 (by rw [List.length_take, hR, hcl, hsz]; omega)
    rw [hfl] at this
    simpa using this
  · intro t ht
    rcases List.mem_append.1 ht with h | h
    · refine E.own_keep (hE t h) (by rw [setsFrom_size]; exact hb.size) fun x hx => ?_
      have hxm : x ∈ ts.flatMap (·.2.2) := List.mem_flatMap.2 ⟨t, h, hx⟩
      rw [setsFrom_other _ _ _ _ x (by have := hlo x hxm; omega)]
      exact hb.block x (E.own_lt (hE t h) x hx)
    · simp at h
      subst h
      refine E.own_keep hd1 (by rw [setsFrom_size]; exact Nat.le_refl _) fun x hx => setsFrom_other _ _ _ _ x (by have := hd3 x hx; omega)
  · rw [List.flatMap_append]
    refine nodup_mk hnd (by simpa using hd2) fun x hx hx2 => ?_
    obtain ⟨t, ht, hxt⟩ := List.mem_flatMap.1 hx
    have h1 := E.own_lt (hE t ht) x hxt
    have h2 : x ∈ b2 := by simpa using hx2
    have := hd3 x h2
    omega
  · intro x hx
    rw [List.flatMap_append] at hx
    rcases List.mem_append.1 hx with h | h
    · exact hlo x h
    · have h2 : x ∈ b2 := by simpa using h
      have := hd3 x h2
      omega
theorem filling_end {w wr : World} {L : List D} (h : Filling E w wr L L.length) : OwX E wr w.heap.size wr.heap.size (.slice (some ⟨w.heap.size, 0, none⟩) L.length L.length) L ∧ Below w.heap.size w wr := by
  obtain ⟨hle, hbw, hlt, ts, R, hts, hR, ho, hE, hnd, hlo⟩ := h
  have hR0 : R = [] := by rw [Nat.sub_self, Nat.zero_mul] at hR; exact List.length_eq_zero_iff.1 hR
  subst hR0
  rw [List.take_length] at hts
  have htl : ts.length = L.length := by rw [← hts]; simp
  refine ⟨⟨w.heap.size :: ts.flatMap (·.2.2), ⟨ts, hts.symm, by rw [htl]; simpa using ho, hE, by simp [Value.ownBlock]⟩, ?_, ?_⟩, hbw⟩
  · exact List.nodup_cons.2 ⟨fun h => by have := hlo _ h; omega, hnd⟩
  · intro b hb
    rcases List.mem_cons.1 hb with rfl | hb
    · omega
    · have := hlo b hb
      obtain ⟨t, ht, hbt⟩ := List.mem_flatMap.1 hb
      have := E.own_lt (hE t ht) b hbt
      omega
end
section
variable {D : Type} (mk1 : D → Nat → D) (c1 : D → Nat)
/-- The marks of a row, from k on; and how many. -/
def mkLs : List D → Nat → List D
  | [], _ => []
  | d :: L, k => mk1 d k :: mkLs L (k + c1 d)
def cntLs : List D → Nat
  | [] => 0
  | d :: L => c1 d + cntLs L
theorem cnt_app (A B : List D) : cntLs c1 (A ++ B) = cntLs c1 A + cntLs c1 B := by
  induction A with
  | nil => simp [cntLs]
  | cons a A ih => simp only [List.cons_append, cntLs, ih]; omega
theorem cnt_take (L : List D) (j : Nat) (h : j < L.length) : cntLs c1 (L.take (j + 1)) = cntLs c1 (L.take j) + c1 L[j] := by
  rw [List.take_succ_eq_append_getElem h, cnt_app]; simp [cntLs]
theorem cnt_le (L : List D) (j : Nat) : cntLs c1 (L.take j) ≤ cntLs c1 L := by
  have h : cntLs c1 L = cntLs c1 (L.take j) + cntLs c1 (L.drop j) := by rw [← cnt_app, List.take_append_drop]
  omega
theorem mk_len' (L : List D) (k : Nat) : (mkLs mk1 c1 L k).length = L.length := by
  induction L generalizing k with
  | nil => rfl
  | cons d L ih => simp [mkLs, ih]
theorem mk_app (A B : List D) (k : Nat) : mkLs mk1 c1 (A ++ B) k = mkLs mk1 c1 A k ++ mkLs mk1 c1 B (k + cntLs c1 A) := by
  induction A generalizing k with
  | nil => simp [mkLs, cntLs]
  | cons d A ih => simp only [List.cons_append, mkLs, cntLs, ih]; rw [Nat.add_assoc]
theorem mk_at (L : List D) (k j : Nat) (h : j < L.length) (h' : j < (mkLs mk1 c1 L k).length) : (mkLs mk1 c1 L k)[j] = mk1 L[j] (k + cntLs c1 (L.take j)) := by
  induction L generalizing k j with
  | nil => exact absurd h (Nat.not_lt_zero _)
  | cons d L ih =>
    cases j with
    | zero => simp [mkLs, cntLs]
    | succ j =>
      simp only [mkLs, List.getElem_cons_succ, List.take_succ_cons, cntLs]
      rw [ih (k + c1 d) j (by simpa using h) (by rw [mk_len']; simpa using h), Nat.add_assoc]
/-- Half marked: the first j. -/
def mixLs (L : List D) (k j : Nat) : List D := mkLs mk1 c1 (L.take j) k ++ L.drop j
theorem mix_len (L : List D) (k j : Nat) (h : j ≤ L.length) : (mixLs mk1 c1 L k j).length = L.length := by unfold mixLs; rw [List.length_append, mk_len', List.length_take, List.length_drop]; omega
theorem mix_at (L : List D) (k j : Nat) (h : j < L.length) (h' : j < (mixLs mk1 c1 L k j).length) : (mixLs mk1 c1 L k j)[j] = L[j] := by
  have e : (mixLs mk1 c1 L k j)[j]? = L[j]? := by
    unfold mixLs
    rw [List.getElem?_append_right (by rw [mk_len', List.length_take]; omega), mk_len', List.length_take, Nat.min_eq_left (Nat.le_of_lt h), Nat.sub_self, List.getElem?_drop]
    rfl
  rw [List.getElem?_eq_getElem h', List.getElem?_eq_getElem h] at e
  exact Option.some.inj e
theorem mix_step (L : List D) (k j : Nat) (h : j < L.length) : (mixLs mk1 c1 L k j).set j (mk1 L[j] (k + cntLs c1 (L.take j))) = mixLs mk1 c1 L k (j + 1) := by
  unfold mixLs
  rw [List.set_append_right _ _ (by rw [mk_len', List.length_take]; omega), List.take_succ_eq_append_getElem h, mk_app, mk_len', List.length_take, Nat.min_eq_left (Nat.le_of_lt h), Nat.sub_self, List.drop_eq_getElem_cons h]
  simp only [mkLs, List.set_cons_zero, List.append_assoc, List.cons_append, List.nil_append]
theorem mix_zero (L : List D) (k : Nat) : mixLs mk1 c1 L k 0 = L := by simp [mixLs, mkLs]
theorem mix_end (L : List D) (k : Nat) : mixLs mk1 c1 L k L.length = mkLs mk1 c1 L k := by simp [mixLs]
end
section
variable {D : Type} (f : D → Int)
/-- The sum over a row. -/
def sumLs : List D → Int
  | [] => 0
  | d :: L => f d + sumLs L
theorem sum_app (A B : List D) : sumLs f (A ++ B) = sumLs f A + sumLs f B := by
  induction A with
  | nil => simp [sumLs]
  | cons a A ih => simp only [List.cons_append, sumLs, ih]; omega
theorem sum_take (L : List D) (j : Nat) (h : j < L.length) : sumLs f (L.take (j + 1)) = sumLs f (L.take j) + f L[j] := by
  rw [List.take_succ_eq_append_getElem h, sum_app]; simp [sumLs]
theorem sum_nn (hf : ∀ d, 0 ≤ f d) (L : List D) : 0 ≤ sumLs f L := by
  induction L with
  | nil => simp [sumLs]
  | cons a A ih => have := hf a; simp only [sumLs]; omega
theorem sum_split (L : List D) (j : Nat) (h : j < L.length) : sumLs f L = sumLs f (L.take j) + f L[j] + sumLs f (L.drop (j + 1)) := by
  conv => lhs; rw [← List.take_append_drop (j + 1) L, sum_app, sum_take f L j h]
theorem sum_mem (hf : ∀ d, 0 ≤ f d) (L : List D) (d : D) (h : d ∈ L) : f d ≤ sumLs f L := by
  induction L with
  | nil => cases h
  | cons a A ih =>
    have := sum_nn f hf A
    have := hf a
    simp only [sumLs]
    rcases List.mem_cons.1 h with rfl | h
    · omega
    · have := ih h; omega
end
end Go.Proofs.Ytllaeakeaabiaaa
/- A slice that came in, of elements of whatever make, read as a list of data; structs of few one-cell fields within a row. -/
namespace Go.Proofs.Ytllaeakeaabiaaa
open Go.RowKit
set_option maxRecDepth 100000
set_option linter.unusedSimpArgs false
set_option linter.unusedVariables false
open Go.ChangeShapes Go.WideShapes Go.ChangeAt Go.Joins Go.Deep in
theorem open_shape {D : Type} {E : Shp D} (d0 : D) {H : Type} {enc : TypeId × Value → H} {W : World} {base : Nat} {spare : Nat → Bool} {held : Bool} {t e : TypeId} {fuel : Nat} {v : Value} {x : DataW H × List MemPlace}
    (ht : Try.prog.underlying t = some (.slice e)) (hs : Try.prog.cellsOf e = E.size)
    (hel : ∀ cs n y, DataW.trod enc Try.prog W base spare held n e cs = some y → ∃ d : D, E.rd W cs d)
    (h : DataW.trod enc Try.prog W base spare held fuel t [v] = some x) : ∃ L : List D, RdR E W v L := by
  obtain ⟨L, hL, hR⟩ := open_rows (α := {cs : List Value // cs.length = E.size} × D) (⟨List.replicate E.size (.int .i64 0), by simp⟩, d0) (fun x => x.1.1) E.size (fun x => x.1.2) (fun x => E.rd W x.1.1 x.2) ht hs E.pos (fun cs n y hy => by
    obtain ⟨d, hd⟩ := hel cs n y hy
    exact ⟨(⟨cs, E.rd_len hd⟩, d), rfl, hd⟩) h
  refine ⟨L.map (·.2), L.map fun x => (x.1.1, x.2), by simp [Function.comp_def], ?_, fun t ht => ?_⟩
  · simpa [List.flatMap_map] using hL
  · obtain ⟨x, hx, rfl⟩ := List.mem_map.1 ht
    exact hR x hx
open Go.ChangeShapes Go.WideShapes Go.ChangeAt Go.Joins Go.Deep in
theorem scells2 {H : Type} {enc : TypeId × Value → H} {W : World} {base : Nat} {spare : Nat → Bool} {held : Bool} {t : TypeId} {f0 f1 : Field} {fuel : Nat} {cs : List Value} {x : DataW H × List MemPlace} (hs : Try.prog.underlying t = some (.struct #[f0, f1])) (hone : oneCellFields Try.prog #[f0, f1] = true) (hC : Try.prog.cellsOf t = 2)
    (h : DataW.trod enc Try.prog W base spare held fuel t cs = some x) :
    ∃ (c0 c1 : Value) (y0 y1 : DataW H × List MemPlace) (n : Nat), cs = [c0, c1] ∧ DataW.trod enc Try.prog W base spare held n f0.type [c0] = some y0 ∧ DataW.trod enc Try.prog W base spare held n f1.type [c1] = some y1 := by
  obtain ⟨y0, y1, n, hx, hl, h0, h1⟩ := trod_struct2 hs h
  obtain ⟨o0, k0⟩ := hone_of hone 0 f0 rfl
  obtain ⟨o1, k1⟩ := hone_of hone 1 f1 rfl
  rw [hC] at hl
  match cs, hl with
  | [c0, c1], _ => exact ⟨c0, c1, y0, y1, n, rfl, by simpa [o0, k0] using h0, by simpa [o1, k1] using h1⟩
open Go.ChangeShapes Go.WideShapes Go.ChangeAt Go.Joins Go.Deep in
theorem scells3 {H : Type} {enc : TypeId × Value → H} {W : World} {base : Nat} {spare : Nat → Bool} {held : Bool} {t : TypeId} {f0 f1 f2 : Field} {fuel : Nat} {cs : List Value} {x : DataW H × List MemPlace} (hs : Try.prog.underlying t = some (.struct #[f0, f1, f2])) (hone : oneCellFields Try.prog #[f0, f1, f2] = true) (hC : Try.prog.cellsOf t = 3)
    (h : DataW.trod enc Try.prog W base spare held fuel t cs = some x) :
    ∃ (c0 c1 c2 : Value) (y0 y1 y2 : DataW H × List MemPlace) (n : Nat), cs = [c0, c1, c2] ∧ DataW.trod enc Try.prog W base spare held n f0.type [c0] = some y0 ∧ DataW.trod enc Try.prog W base spare held n f1.type [c1] = some y1 ∧ DataW.trod enc Try.prog W base spare held n f2.type [c2] = some y2 := by
  obtain ⟨y0, y1, y2, n, hx, hl, h0, h1, h2⟩ := trod_struct3 hs h
  obtain ⟨o0, k0⟩ := hone_of hone 0 f0 rfl
  obtain ⟨o1, k1⟩ := hone_of hone 1 f1 rfl
  obtain ⟨o2, k2⟩ := hone_of hone 2 f2 rfl
  rw [hC] at hl
  match cs, hl with
  | [c0, c1, c2], _ => exact ⟨c0, c1, c2, y0, y1, y2, n, rfl, by simpa [o0, k0] using h0, by simpa [o1, k1] using h1, by simpa [o2, k2] using h2⟩
open Go.ChangeShapes Go.WideShapes Go.ChangeAt Go.Joins Go.Deep in
theorem scells4 {H : Type} {enc : TypeId × Value → H} {W : World} {base : Nat} {spare : Nat → Bool} {held : Bool} {t : TypeId} {f0 f1 f2 f3 : Field} {fuel : Nat} {cs : List Value} {x : DataW H × List MemPlace} (hs : Try.prog.underlying t = some (.struct #[f0, f1, f2, f3])) (hone : oneCellFields Try.prog #[f0, f1, f2, f3] = true) (hC : Try.prog.cellsOf t = 4)
    (h : DataW.trod enc Try.prog W base spare held fuel t cs = some x) :
    ∃ (c0 c1 c2 c3 : Value) (y0 y1 y2 y3 : DataW H × List MemPlace) (n : Nat), cs = [c0, c1, c2, c3] ∧ DataW.trod enc Try.prog W base spare held n f0.type [c0] = some y0 ∧ DataW.trod enc Try.prog W base spare held n f1.type [c1] = some y1 ∧ DataW.trod enc Try.prog W base spare held n f2.type [c2] = some y2 ∧ DataW.trod enc Try.prog W base spare held n f3.type [c3] = some y3 := by
  obtain ⟨y0, y1, y2, y3, n, hx, hl, h0, h1, h2, h3⟩ := trod_struct4 hs h
  obtain ⟨o0, k0⟩ := hone_of hone 0 f0 rfl
  obtain ⟨o1, k1⟩ := hone_of hone 1 f1 rfl
  obtain ⟨o2, k2⟩ := hone_of hone 2 f2 rfl
  obtain ⟨o3, k3⟩ := hone_of hone 3 f3 rfl
  rw [hC] at hl
  match cs, hl with
  | [c0, c1, c2, c3], _ => exact ⟨c0, c1, c2, c3, y0, y1, y2, y3, n, rfl, by simpa [o0, k0] using h0, by simpa [o1, k1] using h1, by simpa [o2, k2] using h2, by simpa [o3, k3] using h3⟩
end Go.Proofs.Ytllaeakeaabiaaa
/- Tunnels in plain words: when one is right, what goes in, out and back, when it is over. -/
namespace Go.Proofs.Ytllaeakeaabiaaa
open Go.RowKit
set_option maxRecDepth 100000
set_option linter.unusedSimpArgs false
set_option linter.unusedVariables false
/-- A Pipe. -/
structure PpD where
  r : Int
  b : ByteArray
  e : Bool
  k : Bool
def zPp : PpD := ⟨0, ⟨#[]⟩, false, false⟩
abbrev pcs (p : PpD) : List Value := [.int .i64 p.r, .string p.b, .bool p.e, .bool p.k]
abbrev pv (p : PpD) : Value := .agg #[.int .i64 p.r, .string p.b, .bool p.e, .bool p.k]
structure TuD where
  up : PpD
  dn : PpD
  went : Int
  came : Int
def zTu : TuD := ⟨zPp, zPp, 0, 0⟩
abbrev tucs (t : TuD) : List Value := [.int .i64 t.up.r, .string t.up.b, .bool t.up.e, .bool t.up.k, .int .i64 t.dn.r, .string t.dn.b, .bool t.dn.e, .bool t.dn.k, .int .i64 t.went, .int .i64 t.came]
abbrev tuv (t : TuD) : Value := .agg #[.int .i64 t.up.r, .string t.up.b, .bool t.up.e, .bool t.up.k, .int .i64 t.dn.r, .string t.dn.b, .bool t.dn.e, .bool t.dn.k, .int .i64 t.went, .int .i64 t.came]
def okPp (p : PpD) : Bool := okB p.r p.b p.k
def okTu (t : TuD) : Bool := okPp t.up && okPp t.dn && inB t.went 0 1000000 && inB t.came 0 1000000
theorem okPp_true {p : PpD} (h : okPp p = true) : 1 ≤ p.r ∧ p.r ≤ 2000 ∧ (p.b.size : Int) ≤ p.r ∧ (p.k = true → p.b.size = 0) := by
  unfold okPp at h
  have h1 : 1 ≤ p.r ∧ p.r ≤ 2000 ∧ (p.b.size : Int) ≤ p.r := by
    unfold okB at h
    simp only [Bool.and_eq_true, decide_eq_true_eq] at h
    exact h.1
  refine ⟨h1.1, h1.2.1, h1.2.2, fun hk => ?_⟩
  rw [okB_rest h1, hk] at h
  simp at h
  rw [ByteArray.toList_eq] at h
  have : p.b.data.toList.length = 0 := by rw [h]; rfl
  simpa using this
theorem okPp_of {p : PpD} (h1 : 1 ≤ p.r) (h2 : p.r ≤ 2000) (h3 : (p.b.size : Int) ≤ p.r) (h4 : p.k = true → p.b.size = 0) : okPp p = true := by
  unfold okPp
  rw [okB_rest ⟨h1, h2, h3⟩]
  cases hk : p.k
  · rfl
  · have : p.b.toList = [] := by rw [ByteArray.toList_eq]; exact List.eq_nil_of_length_eq_zero (by simpa using h4 hk)
    simp [this]
theorem okTu_true {t : TuD} (h : okTu t = true) : okPp t.up = true ∧ okPp t.dn = true ∧ (0 ≤ t.went ∧ t.went ≤ 1000000) ∧ 0 ≤ t.came ∧ t.came ≤ 1000000 := by
  unfold okTu at h
  simp only [Bool.and_eq_true] at h
  obtain ⟨⟨⟨h1, h2⟩, h3⟩, h4⟩ := h
  exact ⟨h1, h2, inB_true h3, inB_true h4⟩
theorem okTu_of {t : TuD} (h1 : okPp t.up = true) (h2 : okPp t.dn = true) (h3 : 0 ≤ t.went ∧ t.went ≤ 1000000) (h4 : 0 ≤ t.came ∧ t.came ≤ 1000000) : okTu t = true := by
  unfold okTu
  rw [h1, h2, inB_of h3.1 h3.2, inB_of h4.1 h4.2]; rfl
def newTu (r : Int) : TuD × Bool := if newB r = true then (⟨⟨r, ⟨#[]⟩, false, false⟩, ⟨r, ⟨#[]⟩, false, false⟩, 0, 0⟩, true) else (zTu, false)
def inTu (t : TuD) (s : ByteArray) (fin : Bool) : TuD × Bool :=
  if okTu t = false then (zTu, false)
  else if t.up.e = true ∨ t.up.k = true ∨ t.up.r - t.up.b.size < s.size then (t, false)
  else (⟨⟨t.up.r, t.up.b ++ s, fin, t.up.k⟩, t.dn, t.went, t.came⟩, true)
/-- How many go out. -/
def outN (t : TuD) (n : Int) : Nat := (max 0 (min (min n (1000000 - t.went)) t.up.b.size)).toNat
def outTu (t : TuD) (n : Int) : TuD × ByteArray :=
  if okTu t = false then (zTu, ⟨#[]⟩)
  else (⟨⟨t.up.r, t.up.b.extract (outN t n) t.up.b.size, t.up.e, t.up.k⟩, t.dn, t.went + outN t n, t.came⟩, t.up.b.extract 0 (outN t n))
/-- How many come back. -/
def bckN (t : TuD) (s : ByteArray) : Nat := if t.dn.e = true ∨ t.dn.k = true then 0 else comes t.dn.r t.dn.b s
def bckTu (t : TuD) (s : ByteArray) (fin : Bool) : TuD × Int :=
  if okTu t = false then (zTu, 0)
  else (⟨t.up, ⟨t.dn.r, t.dn.b ++ s.extract 0 (bckN t s), t.dn.e || (fin && decide (bckN t s = s.size) && !t.dn.k), t.dn.k⟩, t.went, t.came⟩, (bckN t s : Int))
def trnTu (t : TuD) : TuD := if okTu t = false then zTu else ⟨⟨t.up.r, ⟨#[]⟩, t.up.e, true⟩, ⟨t.dn.r, ⟨#[]⟩, t.dn.e, true⟩, t.went, t.came⟩
def dryPp (p : PpD) : Bool := okPp p && (p.e || p.k) && p.b.toList.isEmpty
def ovrTu (t : TuD) : Bool := okTu t && dryPp t.up && dryPp t.dn
end Go.Proofs.Ytllaeakeaabiaaa
/- A text that is bent: some bytes, at most two more than before; of what was there the cursor alone has moved. -/
namespace Go.Proofs.Ytllaeakeaabiaaa
open Go.RowKit
set_option maxRecDepth 100000
set_option linter.unusedSimpArgs false
set_option linter.unusedVariables false

/-- A slice of n bytes in a block that the call made. -/
def BR (w : World) (base : Nat) (ad : Option Addr) (n cap : Nat) : Prop :=
  n ≤ cap ∧ cap ≤ maxLen ∧ (0 < n → ∃ blk, ad = some ⟨blk, 0, none⟩ ∧ base ≤ blk ∧ blk < w.heap.size ∧ ∀ j, j < n → (∃ u, ByteVal u ∧ w.cell? ⟨blk, j, none⟩ = some u) ∧ w.frozen? ⟨blk, j, none⟩ = false)

theorem BR.kept {w w' : World} {base : Nat} {ad : Option Addr} {n cap : Nat} (h : BR w base ad n cap) (hs : w.heap.size ≤ w'.heap.size) (hk : ∀ k, base ≤ k → k < w.heap.size → w'.heap[k]? = w.heap[k]?) : BR w' base ad n cap := by
  obtain ⟨h1, h2, h3⟩ := h
  refine ⟨h1, h2, fun hn => ?_⟩
  obtain ⟨blk, rfl, hb, hl, hc⟩ := h3 hn
  refine ⟨blk, rfl, hb, by omega, fun j hj => ?_⟩
  have e := hk blk hb hl
  obtain ⟨⟨u, hu, hcu⟩, hf⟩ := hc j hj
  exact ⟨⟨u, hu, (World.cell?_of_block (a := ⟨blk, j, none⟩) e).trans hcu⟩, (World.frozen?_of_block (a := ⟨blk, j, none⟩) e).trans hf⟩
theorem BR.moves {g : Nat} {w w' : World} {base : Nat} {ad : Option Addr} {n cap : Nat} (h : BR w base ad n cap) (hm : Moves g w w') (hg : g < base) : BR w' base ad n cap :=
  h.kept hm.size fun k hb hl => hm.block k hl (by omega)
theorem BR.cut {w : World} {base : Nat} {ad : Option Addr} {n cap : Nat} (h : BR w base ad n cap) (k : Nat) (hk : k ≤ n) : BR w base ad k cap := by
  obtain ⟨h1, h2, h3⟩ := h
  refine ⟨by omega, h2, fun hn => ?_⟩
  obtain ⟨blk, e, hb, hl, hc⟩ := h3 (by omega)
  exact ⟨blk, e, hb, hl, fun j hj => hc j (by omega)⟩
theorem BR.of_owns {w : World} {base n cap : Nat} {ad : Option Addr} {xs : List Value} (h : w.ownsRow base 5 1 (.slice ad n cap) n xs) (hx : ∀ u ∈ xs, ByteVal u) : BR w base ad n cap := by
  obtain ⟨hl, h2⟩ := h
  rcases h2 with ⟨h2, h3⟩ | ⟨g, cap', cur, e1, hb, hg, h3, h4, h5, h6⟩
  · simp only [Value.slice.injEq] at h2
    obtain ⟨rfl, rfl, rfl⟩ := h2
    exact ⟨Nat.le_refl _, Nat.zero_le _, fun h => absurd h (Nat.lt_irrefl _)⟩
  · simp only [Value.slice.injEq, true_and] at e1
    obtain ⟨rfl, rfl⟩ := e1
    refine ⟨h3, h4, fun hn => ⟨g, rfl, hb, (Array.getElem?_eq_some_iff.1 hg).1, fun j hj => ⟨?_, Joins.unfrozen_of_block hg j⟩⟩⟩
    have hj2 : j < cur.size := by omega
    refine ⟨cur[j], hx _ ?_, by rw [Joins.cell_of_block hg, Array.getElem?_eq_getElem hj2]⟩
    rw [← h6, List.mem_iff_getElem?]
    exact ⟨j, by rw [List.getElem?_take_of_lt (by omega)]; simp [hj2]⟩
/-- A window of such a slice reads as bytes. -/
theorem BR.window {w : World} {base : Nat} {n cap blk : Nat} (h : BR w base (some ⟨blk, 0, none⟩) n cap) (i m cap' : Nat) (him : i + m ≤ n) (hc : m ≤ cap') (hc' : cap' ≤ maxLen) (ad : Option Addr) (ha : 0 < m → ad = some ⟨blk, i, none⟩) :
    ∃ xs : List Value, (∀ u ∈ xs, ByteVal u) ∧ xs.length = m ∧ Reads w (.slice ad m cap') m 1 xs := by
  obtain ⟨h1, h2, h3⟩ := h
  have hall : ∀ m, i + m ≤ n → ∃ xs : List Value, (∀ u ∈ xs, ByteVal u) ∧ xs.length = m ∧ ∀ j u, xs[j]? = some u → w.cell? ⟨blk, i + j, none⟩ = some u := by
    intro m
    induction m with
    | zero => intro _; exact ⟨[], by simp, rfl, by simp⟩
    | succ m ih =>
      intro hm
      obtain ⟨xs, a1, a2, a3⟩ := ih (by omega)
      obtain ⟨blk', e, _, _, hcc⟩ := h3 (by omega)
      simp only [Option.some.injEq, Addr.mk.injEq, and_true] at e
      subst e
      obtain ⟨⟨u, hu, hcu⟩, _⟩ := hcc (i + m) (by omega)
      refine ⟨xs ++ [u], mem_append_byte a1 u hu, by simp [a2], fun j v hj => ?_⟩
      by_cases hjm : j < m
      · rw [List.getElem?_append_left (by omega)] at hj; exact a3 j v hj
      · have : j = m := by
          have := (List.getElem?_eq_some_iff.1 hj).1
          simp at this; omega
        subst this
        rw [← a2] at hj
        simp at hj
        subst hj; exact hcu
  obtain ⟨xs, a1, a2, a3⟩ := hall m him
  refine ⟨xs, a1, a2, by omega, ad, cap', rfl, hc, hc', fun hm => ?_⟩
  obtain ⟨blk', e, _, hl, _⟩ := h3 (by omega)
  simp only [Option.some.injEq, Addr.mk.injEq, and_true] at e
  subst e
  exact ⟨blk, i, ha hm, hl, a3⟩
theorem byte_one {u : Value} (h : ByteVal u) : u.oneCell' = true := by obtain ⟨z, rfl, _⟩ := h; rfl
theorem bytes_one {xs : List Value} (h : ∀ u ∈ xs, ByteVal u) : ∀ u ∈ xs, u.oneCell' = true := fun u hu => byte_one (h u hu)

theorem BR.string {W : World} {base n cap : Nat} {ad : Option Addr} (h : BR W base ad n cap) (hn : n = 0 → ad = none ∨ ∃ b o, ad = some ⟨b, o, none⟩) :
    ∃ s : ByteArray, s.size = n ∧ (convert 117 9 (.slice ad n cap)).run Try.prog W = .ok (.string s) W := by
  by_cases h0 : n = 0
  · subst h0
    rcases hn rfl with rfl | ⟨b, o, rfl⟩
    · exact ⟨⟨#[]⟩, rfl, by simpa using Lib.run_convert_nil_bytes (P := Try.prog) W 117 9 5 cap Try.underlying117 Try.underlying5 Try.underlying9⟩
    · exact ⟨⟨#[]⟩, rfl, by simpa using run_convert_bytes_back (P := Try.prog) W 117 9 5 ⟨b, o, none⟩ cap [] Try.underlying117 Try.underlying5 Try.underlying9 (fun j hj => by simp at hj)⟩
  · obtain ⟨blk, rfl, hb, hl, hc⟩ := h.2.2 (by omega)
    obtain ⟨xs, a1, a2, a3⟩ := h.window (blk := blk) 0 n cap (by omega) h.1 h.2.1 (some ⟨blk, 0, none⟩) (fun _ => rfl)
    obtain ⟨l, hl1, hl2⟩ := bytes_list xs a1
    refine ⟨⟨l.toArray⟩, by simp [ByteArray.size]; omega, ?_⟩
    have := run_convert_bytes_back (P := Try.prog) W 117 9 5 ⟨blk, 0, none⟩ cap l Try.underlying117 Try.underlying5 Try.underlying9 (fun j hj => by
      obtain ⟨_, ad', cap', e, _, _, hh⟩ := a3
      obtain ⟨b', o', e2, _, hh2⟩ := hh (by omega)
      simp only [Value.slice.injEq, true_and] at e
      obtain ⟨rfl, rfl⟩ := e
      simp only [Option.some.injEq, Addr.mk.injEq, and_true] at e2
      obtain ⟨rfl, rfl⟩ := e2
      have h6 : ((⟨blk, 0, none⟩ : Addr).add j) = ⟨blk, 0 + j, none⟩ := by unfold Addr.add; split <;> simp_all
      rw [h6]
      exact hh2 j _ (hl2 j hj))
    rw [show l.length = n by omega] at this
    exact this

/-- The bytes of a text, laid anew. -/
theorem br_new (w : World) (s : ByteArray) (hs : s.size ≤ 1000000) (hcap : grownCap w s.size 0 5 ≤ maxLen) (hle : s.size ≤ grownCap w s.size 0 5) :
    BR (Lib.bytesWorld w 5 s) w.heap.size (some ⟨w.heap.size, 0, none⟩) s.size (grownCap w s.size 0 5) := by
  refine ⟨hle, hcap, fun hn => ⟨w.heap.size, rfl, Nat.le_refl _, by rw [Lib.bytesWorld_size]; omega, fun j hj => ⟨⟨_, ?_, Lib.bytesWorld_cell w 5 s j hj⟩, ?_⟩⟩⟩
  · have := (s.data.toList.getD j 0).toNat_lt
    exact ⟨_, rfl, by omega, by omega⟩
  · have hsz : j < (Lib.bytesCells w 5 s).size := by
      have h2 : s.size = s.data.size := rfl
      simp [Lib.bytesCells]; omega
    unfold World.frozen?
    simp only [Lib.bytesWorld_at_new]
    simp
    omega
end Go.Proofs.Ytllaeakeaabiaaa
/- Plain mathematics of chapter 3: the bytes that a number takes. -/
namespace Go.Proofs.Ytllaeakeaabiaaa
set_option linter.unusedVariables false

/-- The bytes of a rest, seven bits each, at most k + 1 of them. -/
def restF : Nat → Int → List Int
  | 0, r => [r]
  | k + 1, r => if r < 128 then [r] else (r % 128 + 128) :: restF k (r / 128)
/-- The bytes of n, the high bits of the first left 0; f: the lowest bits all set. -/
def bytesOf (n f : Int) : List Int := if n < f then [n] else f :: restF 4 (n - f)

theorem restF_ne (k : Nat) (r : Int) : 0 < (restF k r).length := by
  cases k with
  | zero => simp [restF]
  | succ k => simp only [restF]; split <;> simp
theorem restF_len (k : Nat) : ∀ r : Int, (restF k r).length ≤ k + 1 := by
  induction k with
  | zero => intro r; simp [restF]
  | succ k ih => intro r; simp only [restF]; split <;> simp; exact ih _
theorem restF_small {k : Nat} {r : Int} (h : r < 128) : restF k r = [r] := by
  cases k with
  | zero => rfl
  | succ k => simp [restF, h]
theorem restF_big {k : Nat} {r : Int} (h : 128 ≤ r) : restF (k + 1) r = (r % 128 + 128) :: restF k (r / 128) := by
  simp only [restF]; rw [if_neg (by omega)]
theorem restF_range (k : Nat) : ∀ r : Int, 0 ≤ r → r < 128 ^ (k + 1) → ∀ x ∈ restF k r, 0 ≤ x ∧ x ≤ 255 := by
  induction k with
  | zero => intro r h0 h1 x hx; simp [restF] at hx h1; omega
  | succ k ih =>
    intro r h0 h1 x hx
    by_cases h : r < 128
    · rw [restF_small h] at hx; simp at hx; omega
    · rw [restF_big (by omega)] at hx
      rcases List.mem_cons.1 hx with rfl | hx
      · omega
      · refine ih (r / 128) (by omega) ?_ x hx
        rw [Int.pow_succ] at h1
        omega
theorem bytesOf_len (n f : Int) : 0 < (bytesOf n f).length ∧ (bytesOf n f).length ≤ 6 := by
  unfold bytesOf
  split
  · simp
  · have := restF_len 4 (n - f); simp; omega
/-- What Width answers. -/
def wdV (n b : Int) : Int := if okN n b = true then ((bytesOf n (pw b - 1)).length : Int) else 0
theorem wdV_no {n b : Int} (h : okN n b = false) : wdV n b = 0 := by simp [wdV, h]
theorem wdV_yes {n b : Int} (h : okN n b = true) : wdV n b = ((bytesOf n (pw b - 1)).length : Int) := by simp [wdV, h]
theorem wdV_range (n b : Int) : 0 ≤ wdV n b ∧ wdV n b ≤ 6 := by
  have := bytesOf_len n (pw b - 1)
  unfold wdV; split <;> omega
theorem bytesOf_ne (n f : Int) : bytesOf n f ≠ [] := by
  have := (bytesOf_len n f).1
  intro e; rw [e] at this; simp at this
end Go.Proofs.Ytllaeakeaabiaaa
/- Chapter 3's High, of the program and of the model: the first byte without its lowest bits. -/
namespace Go.Proofs.Ytllaeakeaabiaaa
open Go.RowKit
set_option maxRecDepth 100000
set_option linter.unusedSimpArgs false
set_option linter.unusedVariables false

theorem andNot_all : ∀ k : Fin 256, (bits .andNot .i64 (k.val : Int) 1 = (k.val : Int) / 2 * 2 ∧ bits .andNot .i64 (k.val : Int) 3 = (k.val : Int) / 4 * 4 ∧ bits .andNot .i64 (k.val : Int) 7 = (k.val : Int) / 8 * 8
    ∧ bits .andNot .i64 (k.val : Int) 15 = (k.val : Int) / 16 * 16) ∧ (bits .andNot .i64 (k.val : Int) 31 = (k.val : Int) / 32 * 32 ∧ bits .andNot .i64 (k.val : Int) 63 = (k.val : Int) / 64 * 64
    ∧ bits .andNot .i64 (k.val : Int) 127 = (k.val : Int) / 128 * 128 ∧ bits .andNot .i64 (k.val : Int) 255 = (k.val : Int) / 256 * 256) := by decide +kernel

theorem andNot_pw {x b : Int} (h0 : 0 ≤ x) (h1 : x ≤ 255) (hb1 : 1 ≤ b) (hb8 : b ≤ 8) : bits .andNot .i64 x (pw b - 1) = x / pw b * pw b := by
  obtain ⟨⟨a1, a2, a3, a4⟩, a5, a6, a7, a8⟩ := andNot_all ⟨x.toNat, by omega⟩
  have e : ((x.toNat : Nat) : Int) = x := by omega
  simp only [e] at a1 a2 a3 a4 a5 a6 a7 a8
  rcases bits8 hb1 hb8 with rfl | rfl | rfl | rfl | rfl | rfl | rfl | rfl <;> simpa [pw] using (by assumption)

/-- What High answers. -/
def hiV (s : ByteArray) (b : Int) : Int := if h : 0 < s.size then if 1 ≤ b ∧ b ≤ 8 then (s[0].toNat : Int) / pw b * pw b else -1 else -1
theorem hiV_yes {s : ByteArray} {b : Int} (h : 0 < s.size) (h1 : 1 ≤ b) (h8 : b ≤ 8) : hiV s b = (s[0].toNat : Int) / pw b * pw b := by simp [hiV, h, h1, h8]
theorem hiV_no {s : ByteArray} {b : Int} (h : s.size = 0 ∨ inB b 1 8 = false) : hiV s b = -1 := by
  rcases h with h | h
  · simp [hiV, h]
  · have := inB_false h
    unfold hiV
    simp [this]

end Go.Proofs.Ytllaeakeaabiaaa
/- Rows of Fields: copied, held against each other, marked, read again, counted. -/
namespace Go.Proofs.Ytllaeakeaabiaaa
open Go.RowKit
set_option maxRecDepth 100000
set_option linter.unusedSimpArgs false
set_option linter.unusedVariables false

structure Fd where
  n : ByteArray
  v : ByteArray
def Fd.cs (f : Fd) : List Value := [.string f.n, .string f.v]
/-- Small enough to be a Go text. -/
def Fd.fine (f : Fd) : Prop := f.n.size ≤ 9223372036854775807 ∧ f.v.size ≤ 9223372036854775807
def fv (L : List Fd) : List Value := L.flatMap Fd.cs
theorem fcs_len (s : Fd) : s.cs.length = 2 := rfl
theorem fv_len (L : List Fd) : (fv L).length = L.length * 2 := flat_length Fd.cs 2 fcs_len L
theorem fv_get (L : List Fd) (k : Nat) (h : k < L.length) : (fv L)[k * 2]? = some (.string L[k].n) ∧ (fv L)[k * 2 + 1]? = some (.string L[k].v) :=
  ⟨flat_get Fd.cs 2 fcs_len L k h 0 (by decide), flat_get Fd.cs 2 fcs_len L k h 1 (by decide)⟩
theorem fv_one (L : List Fd) : ∀ u ∈ fv L, u.oneCell' = true := by
  intro u hu
  obtain ⟨f, _, hf⟩ := List.mem_flatMap.1 hu
  simp only [Fd.cs, List.mem_cons, List.not_mem_nil, or_false] at hf
  rcases hf with rfl | rfl <;> rfl
theorem fv_app (A B : List Fd) : fv (A ++ B) = fv A ++ fv B := by simp [fv]

theorem toField1 (s : Fd) (w : World) : Calls Try.prog 64 #[.agg #[.string s.n, .string s.v]] w fun x w' => x = .returned (.agg #[.string s.n, .string s.v]) ∧ Below w.heap.size w w' := by
  go_enter Try.func64, Try.ntmps64
  go_wp2
  go_returns
  exact ⟨rfl, (by repeat' (first | (with_reducible exact Below.refl _ _) | (with_reducible refine Below.drew ?_) | (with_reducible refine bo_drewN _ ?_) | (with_reducible refine bo_alloc ?_ _) | (refine bchain ?_ (by with_reducible assumption)) | (with_reducible refine Below.setCell ?_ ?_ _) | go_size))⟩

theorem eqField1 (s : Fd) (w : World) : Calls Try.prog 72 #[.agg #[.string s.n, .string s.v], .agg #[.string s.n, .string s.v]] w fun x w' => x = .returned (.bool true) ∧ Below w.heap.size w w' := by
  go_enter Try.func72, Try.ntmps72
  go_wp2
  go_ret
  exact ⟨rfl, (by repeat' (first | (with_reducible exact Below.refl _ _) | (with_reducible refine Below.drew ?_) | (with_reducible refine bo_drewN _ ?_) | (with_reducible refine bo_alloc ?_ _) | (refine bchain ?_ (by with_reducible assumption)) | (with_reducible refine Below.setCell ?_ ?_ _) | go_size))⟩

/-- How many bytes both have. -/
def szF (f : Fd) : Int := f.n.size + f.v.size
theorem szField1 (f : Fd) (left : Int) (w : World) (hf : f.fine) (h0 : 0 ≤ left) (h1 : left ≤ 1048576) :
    Calls Try.prog 60 #[.agg #[.string f.n, .string f.v], .int .i64 left] w fun x w' => x = .returned (.int .i64 (if left - szF f < 0 then -1 else left - szF f)) ∧ Below w.heap.size w w' := by
  obtain ⟨hn, hv⟩ := hf
  unfold szF
  by_cases hA : left - f.n.size < 0
  · have e : left - ((f.n.size : Int) + f.v.size) < 0 := by omega
    rw [if_pos e]
    go_enter Try.func60, Try.ntmps60
    go_wp2
    go_ret
    exact ⟨rfl, (by repeat' (first | (with_reducible exact Below.refl _ _) | (with_reducible refine Below.drew ?_) | (with_reducible refine bo_drewN _ ?_) | (with_reducible refine bo_alloc ?_ _) | (refine bchain ?_ (by with_reducible assumption)) | (with_reducible refine Below.setCell ?_ ?_ _) | go_size))⟩
  · by_cases hB : left - f.n.size - f.v.size < 0
    · have e : left - ((f.n.size : Int) + f.v.size) < 0 := by omega
      rw [if_pos e]
      go_enter Try.func60, Try.ntmps60
      go_wp2
      go_ret
      exact ⟨rfl, (by repeat' (first | (with_reducible exact Below.refl _ _) | (with_reducible refine Below.drew ?_) | (with_reducible refine bo_drewN _ ?_) | (with_reducible refine bo_alloc ?_ _) | (refine bchain ?_ (by with_reducible assumption)) | (with_reducible refine Below.setCell ?_ ?_ _) | go_size))⟩
    · have e : ¬ left - ((f.n.size : Int) + f.v.size) < 0 := by omega
      rw [if_neg e, show left - ((f.n.size : Int) + f.v.size) = left - f.n.size - f.v.size by omega]
      clear e
      go_enter Try.func60, Try.ntmps60
      go_wp2
      go_ret
      exact ⟨rfl, (by repeat' (first | (with_reducible exact Below.refl _ _) | (with_reducible refine Below.drew ?_) | (with_reducible refine bo_drewN _ ?_) | (with_reducible refine bo_alloc ?_ _) | (refine bchain ?_ (by with_reducible assumption)) | (with_reducible refine Below.setCell ?_ ?_ _) | go_size))⟩

/-- How many bytes the fields of a row have. -/
def szL : List Fd → Int
  | [] => 0
  | f :: L => szF f + szL L
theorem szF_pos (f : Fd) : 0 ≤ szF f := by unfold szF; omega
theorem szL_pos (L : List Fd) : 0 ≤ szL L := by
  induction L with
  | nil => simp [szL]
  | cons f L ih => have := szF_pos f; simp only [szL]; omega
theorem szL_app (A B : List Fd) : szL (A ++ B) = szL A + szL B := by
  induction A with
  | nil => simp [szL]
  | cons f A ih => simp only [List.cons_append, szL, ih]; omega
theorem szL_split (L : List Fd) (k : Nat) (h : k < L.length) : szL L = szL (L.take k) + szF L[k] + szL (L.drop (k + 1)) := by
  conv => lhs; rw [← List.take_append_drop k L, List.drop_eq_getElem_cons h, szL_app]
  simp only [szL]; omega
theorem szL_succ (L : List Fd) (k : Nat) (h : k < L.length) : szL (L.take (k + 1)) = szL (L.take k) + szF L[k] := by
  rw [List.take_succ_eq_append_getElem h, szL_app]; simp [szL]

set_option maxHeartbeats 1000000 in
theorem szFields (L : List Fd) (v : Value) (left : Int) (w : World) (hr0 : Reads w v L.length 2 (fv L)) (hf : ∀ f ∈ L, f.fine) (h0 : 0 ≤ left) (h1 : left ≤ 1048576) :
    Calls Try.prog 37 #[v, .int .i64 left] w fun x w' => x = .returned (.int .i64 (if left - L.length - szL L < 0 then -1 else left - L.length - szL L)) ∧ Below w.heap.size w w' := by
  obtain ⟨hl, ad, cap, rfl, h2, h3, h4⟩ := hr0
  unfold maxLen at h3
  have hp := szL_pos L
  have H3 := hide h4
  have HF := hide hf
  clear h4 hf
  obtain ⟨R, hR⟩ : ∃ R : Int, R = if left - L.length - szL L < 0 then -1 else left - L.length - szL L := ⟨_, rfl⟩
  rw [← hR]
  have HR := hide hR
  clear hR
  by_cases h : left - L.length < 0
  · have e := HR.out
    rw [if_pos (by omega)] at e
    subst e
    clear HR
    go_enter Try.func37, Try.ntmps37
    go_wp2_with fail
    go_ret
    exact ⟨rfl, (by repeat' (first | (with_reducible exact Below.refl _ _) | (with_reducible refine Below.drew ?_) | (with_reducible refine bo_drewN _ ?_) | (with_reducible refine bo_alloc ?_ _) | (refine bchain ?_ (by with_reducible assumption)) | (with_reducible refine Below.setCell ?_ ?_ _) | go_size))⟩
  · go_enter Try.func37, Try.ntmps37
    go_wp2_with fail
    go_loopw [1, 5] (fun lv i wr => ∃ (k : Nat), i = .int .i64 k ∧ k ≤ L.length ∧ lv = .int .i64 (left - L.length - szL (L.take k)) ∧ 0 ≤ left - L.length - szL (L.take k) ∧ Below w.heap.size w wr) (fun _ i _ => L.length - (intOf i).toNat)
    case atStart => exact ⟨0, rfl, Nat.zero_le _, by simp [szL], by simp [szL]; omega, Below.refl _ _⟩
    case round =>
      obtain ⟨k, rfl, hk, rfl, hpos, hb⟩ := hrel
      by_cases hlt : k < L.length
      · obtain ⟨b, o, rfl, hbw, hc⟩ := H3.out (by omega)
        obtain ⟨s0, s1⟩ := fv_get L k hlt
        have hsp := szL_split L k hlt
        have hsu := szL_succ L k hlt
        have hp2 := szL_pos (L.drop (k + 1))
        have hp3 := szL_pos (L.take k)
        have hfk := HF.out _ (List.getElem_mem hlt)
        obtain ⟨f, hff⟩ : ∃ f, f = L[k] := ⟨_, rfl⟩
        rw [← hff] at s0 s1 hsp hsu hfk
        have c0 : wr.cell? ⟨b, o + k * 2, none⟩ = some (.string f.n) := by rw [hb.cell (p := ⟨b, o + k * 2, none⟩) hbw]; exact hc _ _ s0
        have c1 : wr.cell? ⟨b, o + k * 2 + 1, none⟩ = some (.string f.v) := by rw [hb.cell (p := ⟨b, o + k * 2 + 1, none⟩) hbw]; exact hc _ _ s1
        clear hc s0 s1 hff
        have HS := hide hsp; have HU := hide hsu
        have hpf := szF_pos f
        generalize hA : szL (L.take k) = A at *
        clear hsp hsu hA
        by_cases hneg : left - L.length - A - szF f < 0
        · have e := HR.out
          rw [if_pos (by have := HS.out; omega)] at e
          subst e
          clear HR
          go_wp2_with fail
          refine (szField1 f _ _ hfk (by omega) (by omega)).mono ?_; rw [if_pos (by omega)]; rintro x w1 ⟨rfl, hb1⟩
          go_wp2_with fail
          go_ret
          exact ⟨rfl, bchain hb hb1⟩
        · go_wp2_with fail
          refine (szField1 f _ _ hfk (by omega) (by omega)).mono ?_; rw [if_neg (by omega)]; rintro x w1 ⟨rfl, hb1⟩
          go_wp2_with fail
          exact ⟨⟨k + 1, by go_num, by omega, int_eq (by have := HU.out; omega), by have := HU.out; omega, bchain hb hb1⟩, by simp [intOf]; omega⟩
      · obtain rfl : k = L.length := by omega
        rw [List.take_length] at hpos ⊢
        have e := HR.out
        rw [if_neg (by omega)] at e
        subst e
        clear HR
        go_wp2_with fail
        go_ret
        exact ⟨rfl, hb⟩

set_option maxHeartbeats 1000000 in
theorem toFields (L : List Fd) (v : Value) (w : World) (hr0 : Reads w v L.length 2 (fv L)) (hL : L.length ≤ 1048576) :
    Calls Try.prog 45 #[v] w fun x w' => ∃ v', x = .returned v' ∧ w'.ownsRow w.heap.size 85 2 v' L.length (fv L) ∧ Below w.heap.size w w' := by
  obtain ⟨M, hM, hmk⟩ := make_row 36 85 (.agg #[.string ⟨#[]⟩, .string ⟨#[]⟩]) 2 32 Try.underlying36 (by kernel_rfl) rfl (by decide) (by decide) L.length hL
  obtain ⟨hl, ad, cap, rfl, h1, h2, h3⟩ := hr0
  have ho := owns_made w M 85 2 L.length hM hL
  have H3 := hide h3
  clear h3
  unfold maxLen at h2
  go_enter Try.func45, Try.ntmps45
  go_wp2_with fail
  go_loopw [4] (fun i wr => ∃ (k : Nat) (xs : List Value), i = .int .i64 k ∧ k ≤ L.length ∧ wr.ownsRow w.heap.size 85 2 (.slice (some ⟨w.heap.size, 0, none⟩) L.length L.length) L.length xs ∧ (∀ j, j < k * 2 → xs[j]? = (fv L)[j]?) ∧ Below w.heap.size w wr) (fun i _ => L.length - (intOf i).toNat)
  case atStart => exact ⟨0, _, rfl, Nat.zero_le _, ho, fun j hj => absurd hj (by omega), (Below.refl _ _).alloc (Nat.le_refl _) _⟩
  case round =>
    obtain ⟨k, xs, rfl, hk, hown, hx, hb⟩ := hrel
    by_cases hlt : k < L.length
    · obtain ⟨b, o, rfl, hbw, hc⟩ := H3.out (by omega)
      obtain ⟨s0, s1⟩ := fv_get L k hlt
      have c0 : wr.cell? ⟨b, o + k * 2, none⟩ = some (.string L[k].n) := by rw [hb.cell (p := ⟨b, o + k * 2, none⟩) hbw]; exact hc _ _ s0
      have c1 : wr.cell? ⟨b, o + k * 2 + 1, none⟩ = some (.string L[k].v) := by rw [hb.cell (p := ⟨b, o + k * 2 + 1, none⟩) hbw]; exact hc _ _ s1
      have HX := hide hx
      have S0 := hide s0; have S1 := hide s1; clear s0 s1
      have HOwn := hide hown
      clear hx hown hc
      go_wp2_with fail
      refine (toField1 L[k] _).mono ?_; rintro x w1 ⟨rfl, hb1⟩
      have hown1 := owns_new HOwn.out hb1
      have hbb := bchain hb hb1
      obtain ⟨g, cap', e1, e2, e3, e4, _, _, e5, e6⟩ := owns_open hown1 (by omega)
      simp only [Value.slice.injEq, Option.some.injEq, Addr.mk.injEq] at e1
      obtain ⟨⟨rfl, _, _⟩, _, rfl⟩ := e1
      have hl1 := hown1.1
      obtain ⟨u0, hu0⟩ : ∃ u, w1.cell? ⟨w.heap.size, k * 2, none⟩ = some u := ⟨_, e5 _ _ (List.getElem?_eq_getElem (by omega))⟩
      obtain ⟨u1, hu1⟩ : ∃ u, w1.cell? ⟨w.heap.size, k * 2 + 1, none⟩ = some u := ⟨_, e5 _ _ (List.getElem?_eq_getElem (by omega))⟩
      have HO := hide (owns_set (owns_set hown1 rfl (k * 2) (.string L[k].n)) rfl (k * 2 + 1) (.string L[k].v))
      have HP := hide (pre_set ((k + 1) * 2) (pre_set (k * 2 + 1) HX.out S0.out (by omega) rfl) S1.out (by simp; omega) (by omega))
      clear e5 e2 hown1
      go_wp2_with fail
      exact ⟨⟨k + 1, _, by go_num, by omega, HO.out, HP.out, (hbb.setCell (by simp) _).setCell (by simp) _⟩, by simp [intOf]; omega⟩
    · obtain rfl : k = L.length := by omega
      have hxs : xs = fv L := pre_end hown.1 (fv_len L) hx
      subst hxs
      go_wp2_with fail
      go_ret
      exact ⟨_, rfl, hown, hb⟩

set_option maxHeartbeats 1000000 in
theorem eqFields (L : List Fd) (v v' : Value) (w : World) (hr0 : Reads w v L.length 2 (fv L)) (hr1 : Reads w v' L.length 2 (fv L)) :
    Calls Try.prog 53 #[v, v'] w fun x w' => x = .returned (.bool true) ∧ Below w.heap.size w w' := by
  obtain ⟨hl, ad, cap, rfl, h1, h2, h3⟩ := hr0
  obtain ⟨hl', ad', cap', rfl, h1', h2', h3'⟩ := hr1
  have H3 := hide h3
  have H3' := hide h3'
  clear h3 h3'
  unfold maxLen at h2 h2'
  go_enter Try.func53, Try.ntmps53
  go_wp2_with fail
  go_loopw [5] (fun i wr => ∃ (k : Nat), i = .int .i64 k ∧ k ≤ L.length ∧ Below w.heap.size w wr) (fun i _ => L.length - (intOf i).toNat)
  case atStart => exact ⟨0, rfl, Nat.zero_le _, Below.refl _ _⟩
  case round =>
    obtain ⟨k, rfl, hk, hb⟩ := hrel
    by_cases hlt : k < L.length
    · obtain ⟨b, o, rfl, hbw, hc⟩ := H3.out (by omega)
      obtain ⟨b', o', rfl, hbw', hc'⟩ := H3'.out (by omega)
      obtain ⟨s0, s1⟩ := fv_get L k hlt
      have c0 : wr.cell? ⟨b, o + k * 2, none⟩ = some (.string L[k].n) := by rw [hb.cell (p := ⟨b, o + k * 2, none⟩) hbw]; exact hc _ _ s0
      have c1 : wr.cell? ⟨b, o + k * 2 + 1, none⟩ = some (.string L[k].v) := by rw [hb.cell (p := ⟨b, o + k * 2 + 1, none⟩) hbw]; exact hc _ _ s1
      have d0 : wr.cell? ⟨b', o' + k * 2, none⟩ = some (.string L[k].n) := by rw [hb.cell (p := ⟨b', o' + k * 2, none⟩) hbw']; exact hc' _ _ s0
      have d1 : wr.cell? ⟨b', o' + k * 2 + 1, none⟩ = some (.string L[k].v) := by rw [hb.cell (p := ⟨b', o' + k * 2 + 1, none⟩) hbw']; exact hc' _ _ s1
      have hsb := hb.size
      have hb1 : b < wr.heap.size := by omega
      have hb2 : b' < wr.heap.size := by omega
      clear hc hc' s0 s1
      go_wp2_with fail
      have q0 : ∀ y : Later wr, y.w.cell? ⟨b, o + k * 2, none⟩ = some (.string L[k].n) := fun y => (y.b.cell (p := ⟨b, o + k * 2, none⟩) hb1).trans c0
      have q1 : ∀ y : Later wr, y.w.cell? ⟨b, o + k * 2 + 1, none⟩ = some (.string L[k].v) := fun y => (y.b.cell (p := ⟨b, o + k * 2 + 1, none⟩) hb1).trans c1
      have r0 : ∀ y : Later wr, y.w.cell? ⟨b', o' + k * 2, none⟩ = some (.string L[k].n) := fun y => (y.b.cell (p := ⟨b', o' + k * 2, none⟩) hb2).trans d0
      have r1 : ∀ y : Later wr, y.w.cell? ⟨b', o' + k * 2 + 1, none⟩ = some (.string L[k].v) := fun y => (y.b.cell (p := ⟨b', o' + k * 2 + 1, none⟩) hb2).trans d1
      clear c0 c1 d0 d1
      have hne : Nonempty (Later wr) := ⟨⟨wr, Below.refl _ _⟩⟩; refine region_later (by kernel_rfl) (by kernel_rfl) ?_
      repeat (go_big_quiet_step (fail))
      go_big_quiet_want; go_big_quiet_op; refine ⟨.bool true, fun y => later_calls (x := y) (eqField1 L[k] y.w), ?_⟩; go_big_quiet_on
      repeat (go_big_quiet_step (fail))
      refine wpQuiet_nil ?_; intro _ hw'; obtain ⟨y, hw''⟩ := hw'; subst hw''; have hby := y.b
      go_wp2_with fail
      go_roundw
      case rel => exact ⟨k + 1, by go_num, by omega, bchain hb hby⟩
      case measure => simp [intOf]; omega
    · go_wp2_with fail
      go_ret
      exact ⟨rfl, hb⟩

/-- The marks of a row of n texts, from k on. -/
def mkT (k n : Nat) : List Value := (List.range n).map fun j => .string (mtx (k + j))
theorem mkT_len (k n : Nat) : (mkT k n).length = n := by simp [mkT]
theorem mkT_get (k n j : Nat) (h : j < n) : (mkT k n)[j]? = some (.string (mtx (k + j))) := by simp [mkT, h]

set_option maxHeartbeats 1000000 in
theorem heldFields (n k : Nat) (v : Value) (w : World) (hr0 : Reads w v n 2 (mkT k (n * 2))) (hk1 : k + n * 2 ≤ 1000000000) :
    Calls Try.prog 59 #[v, .int .i64 k] w fun x w' => x = .returned (.int .i64 ((k + n * 2 : Nat) : Int)) ∧ Below w.heap.size w w' := by
  obtain ⟨hl, ad, cap, rfl, h1, h2, h3⟩ := hr0
  have H3 := hide h3
  clear h3
  unfold maxLen at h2
  go_enter Try.func59, Try.ntmps59
  go_wp2_with fail
  go_loopw [1, 5] (fun kk i wr => ∃ (j : Nat), i = .int .i64 j ∧ kk = .int .i64 ((k + j * 2 : Nat) : Int) ∧ j ≤ n ∧ Below w.heap.size w wr) (fun _ i _ => n - (intOf i).toNat)
  case atStart => exact ⟨0, rfl, by simp, Nat.zero_le _, Below.refl _ _⟩
  case round =>
    obtain ⟨j, rfl, rfl, hj, hb⟩ := hrel
    by_cases hlt : j < n
    · obtain ⟨b, o, rfl, hbw, hc⟩ := H3.out (by omega)
      obtain ⟨K, hK⟩ : ∃ K : Nat, K = k + j * 2 := ⟨_, rfl⟩
      have hK1 : k + (j * 2 + 1) = K + 1 := by omega
      have c0 : wr.cell? ⟨b, o + j * 2, none⟩ = some (.string (mtx K)) := by rw [hb.cell (p := ⟨b, o + j * 2, none⟩) hbw, hK]; exact hc _ _ (mkT_get k (n * 2) (j * 2) (by omega))
      have c1 : wr.cell? ⟨b, o + j * 2 + 1, none⟩ = some (.string (mtx (K + 1))) := by rw [hb.cell (p := ⟨b, o + j * 2 + 1, none⟩) hbw, ← hK1]; exact hc _ _ (mkT_get k (n * 2) (j * 2 + 1) (by omega))
      have hsb := hb.size
      have hb1 : b < wr.heap.size := by omega
      clear hc hK1
      have hkb : K + 1 ≤ 1000000000 := by omega
      rw [← hK]
      have HK := hide hK
      clear hK
      go_wp2_with fail
      have q0 : ∀ y : Later wr, y.w.cell? ⟨b, o + j * 2, none⟩ = some (.string (mtx K)) := fun y => (y.b.cell (p := ⟨b, o + j * 2, none⟩) hb1).trans c0
      have hne : Nonempty (Later wr) := ⟨⟨wr, Below.refl _ _⟩⟩; refine region_later (by kernel_rfl) (by kernel_rfl) ?_
      repeat (go_big_quiet_step (fail))
      go_big_quiet_want; go_big_quiet_op; refine ⟨.string (mtx K), fun y => later_calls (x := y) ((fun u => markTx K u (by omega)) y.w), ?_⟩; go_big_quiet_on
      repeat (go_big_quiet_step (fail))
      refine wpQuiet_nil ?_; intro _ hw'; obtain ⟨y, hw''⟩ := hw'; subst hw''; have hby := y.b
      clear q0 hne
      have c1' := (hby.cell (p := ⟨b, o + j * 2 + 1, none⟩) hb1).trans c1
      have hb1' : b < y.w.heap.size := Nat.lt_of_lt_of_le hb1 hby.size
      obtain ⟨wy, hwy⟩ : ∃ wy, wy = y.w := ⟨_, rfl⟩
      rw [← hwy] at hby c1' hb1' ⊢
      clear c0 c1 hwy y
      have hbb := bchain hb hby
      go_wp2_with fail
      have q1 : ∀ y : Later wy, y.w.cell? ⟨b, o + j * 2 + 1, none⟩ = some (.string (mtx (K + 1))) := fun y => (y.b.cell (p := ⟨b, o + j * 2 + 1, none⟩) hb1').trans c1'
      have hne : Nonempty (Later wy) := ⟨⟨wy, Below.refl _ _⟩⟩; refine region_later (by kernel_rfl) (by kernel_rfl) ?_
      repeat (go_big_quiet_step (fail))
      go_big_quiet_want; go_big_quiet_op; refine ⟨.string (mtx (K + 1)), fun y => later_calls (x := y) ((fun u => markTx (K + 1) u (by omega)) y.w), ?_⟩; go_big_quiet_on
      repeat (go_big_quiet_step (fail))
      refine wpQuiet_nil ?_; intro _ hw'; obtain ⟨y2, hw''⟩ := hw'; subst hw''; have hby2 := y2.b
      go_wp2_with fail
      go_roundw
      case rel => exact ⟨j + 1, by go_num, int_eq (by have := HK.out; omega), by omega, bchain hbb hby2⟩
      case measure => simp [intOf]; omega
    · obtain rfl : j = n := by omega
      go_wp2_with fail
      go_ret
      exact ⟨rfl, hb⟩

set_option maxHeartbeats 1000000 in
theorem markFields (n k : Nat) (v : Value) (xs : List Value) (lo : Nat) (w : World) (ho : w.ownsRow lo 85 2 v n xs) (hk1 : k + n * 2 ≤ 1000000000) :
    Calls Try.prog 56 #[v, .int .i64 k] w fun x w' => x = .returned (.int .i64 ((k + n * 2 : Nat) : Int)) ∧ w'.ownsRow lo 85 2 v n (mkT k (n * 2)) ∧ w.grownBy w' v.ownBlock := by
  obtain ⟨ad, cap, rfl, h1, h2⟩ := owns_form ho
  unfold maxLen at h2
  have HO := hide ho
  clear ho
  go_enter Try.func56, Try.ntmps56
  go_wp2_with fail
  go_loopw [1, 5] (fun kk i wr => ∃ (j : Nat) (ys : List Value), i = .int .i64 j ∧ kk = .int .i64 ((k + j * 2 : Nat) : Int) ∧ j ≤ n ∧ wr.ownsRow lo 85 2 (.slice ad n cap) n ys ∧ (∀ t, t < j * 2 → ys[t]? = (mkT k (n * 2))[t]?) ∧ w.grownBy wr (Value.slice ad n cap).ownBlock) (fun _ i _ => n - (intOf i).toNat)
  case atStart => exact ⟨0, _, rfl, by simp, Nat.zero_le _, HO.out, fun t ht => absurd ht (by omega), gb_refl _ _⟩
  case round =>
    obtain ⟨j, ys, rfl, rfl, hj, hown, hy, ht⟩ := hrel
    by_cases hlt : j < n
    · obtain ⟨K, hK⟩ : ∃ K : Nat, K = k + j * 2 := ⟨_, rfl⟩
      have hkb : K + 1 ≤ 1000000000 := by omega
      rw [← hK]
      have HK := hide hK
      have HT := hide ht
      have HY := hide hy
      have HOwn := hide hown
      clear hy hown hK ht
      go_wp2_with fail
      refine (markTx K _ (by omega)).mono ?_; rintro x w1 ⟨rfl, hb1⟩
      have hown1 := owns_new HOwn.out hb1
      obtain ⟨g, cap', e1, e2, e3, e4, _, _, e5, e6⟩ := owns_open hown1 (by omega)
      simp only [Value.slice.injEq] at e1
      obtain ⟨rfl, _, rfl⟩ := e1
      have hl1 := hown1.1
      obtain ⟨u0, hu0⟩ : ∃ u, w1.cell? ⟨g, j * 2, none⟩ = some u := ⟨_, e5 _ _ (List.getElem?_eq_getElem (by omega))⟩
      have HO1 := hide (owns_set (g := g) hown1 rfl (j * 2) (.string (mtx K)))
      have HP1 := hide (pre_set (j * 2 + 1) (a := .string (mtx K)) HY.out (by rw [mkT_get k (n * 2) (j * 2) (by omega), HK.out]) (by omega) rfl)
      have ht1 := hide (gb_set (gb_trans HT.out (gb_new hb1 _)) ⟨g, j * 2, none⟩ (.string (mtx K)) (by rfl))
      clear e5 e2 hown1
      go_wp2_with fail
      generalize w1.setCell ⟨g, j * 2, none⟩ (.string (mtx K)) = w2 at *
      refine (markTx (K + 1) _ (by omega)).mono ?_; rintro x w3 ⟨rfl, hb3⟩
      have hown3 := owns_new HO1.out hb3
      obtain ⟨g', cap'', f1, f2, f3, f4, _, _, f5, f6⟩ := owns_open hown3 (by omega)
      simp only [Value.slice.injEq, Option.some.injEq, Addr.mk.injEq] at f1
      obtain ⟨⟨rfl, _, _⟩, _, rfl⟩ := f1
      have hl3 := hown3.1
      obtain ⟨u1, hu1⟩ : ∃ u, w3.cell? ⟨g, j * 2 + 1, none⟩ = some u := ⟨_, f5 _ _ (List.getElem?_eq_getElem (by omega))⟩
      have HO3 := hide (owns_set (g := g) hown3 rfl (j * 2 + 1) (.string (mtx (K + 1))))
      have HP3 := hide (pre_set ((j + 1) * 2) (a := .string (mtx (K + 1))) HP1.out (by rw [mkT_get k (n * 2) (j * 2 + 1) (by omega), HK.out]; rfl) (by rw [List.length_set] at hl3 ⊢; omega) (by omega))
      have ht3 := hide (gb_set (gb_trans ht1.out (gb_new hb3 _)) ⟨g, j * 2 + 1, none⟩ (.string (mtx (K + 1))) (by rfl))
      clear f5 f2 hown3
      go_wp2_with fail
      exact ⟨⟨j + 1, _, by go_num, int_eq (by have := HK.out; omega), by omega, HO3.out, HP3.out, ht3.out⟩, by simp [intOf]; omega⟩
    · obtain rfl : j = n := by omega
      have hys : ys = mkT k (j * 2) := pre_end hown.1 (mkT_len _ _) hy
      subst hys
      go_wp2_with fail
      go_ret
      exact ⟨rfl, hown, ht⟩
end Go.Proofs.Ytllaeakeaabiaaa
/- Frames in plain words: numbers as bytes, heads, frames that are shown and told, in whatever pieces. -/
namespace Go.Proofs.Ytllaeakeaabiaaa
open Go.RowKit
set_option maxRecDepth 100000
set_option linter.unusedSimpArgs false
set_option linter.unusedVariables false

/-- A number as bytes, the highest first: so many of them. -/
def bytL : Nat → Int → List Int
  | 0, _ => []
  | c + 1, n => bytL c (n / 256) ++ [n % 256]
theorem bytL_len (c : Nat) : ∀ n, (bytL c n).length = c := by
  induction c with
  | zero => intro n; rfl
  | succ c ih => intro n; simp [bytL, ih]
theorem bytL_range (c : Nat) : ∀ n, ∀ x ∈ bytL c n, 0 ≤ x ∧ x ≤ 255 := by
  induction c with
  | zero => intro n x hx; cases hx
  | succ c ih =>
    intro n x hx
    rcases List.mem_append.1 hx with h | h
    · exact ih _ x h
    · simp at h; omega
def bytV (c : Nat) (n : Int) : ByteArray := strOf (bytL c n)
theorem bytV_size (c : Nat) (n : Int) : (bytV c n).size = c := by unfold bytV; rw [strOf_size, bytL_len]
theorem bytV_bys (c : Nat) (n : Int) : bys (bytV c n) = bytL c n := bys_strOf (bytL_range c n)
theorem snoc_ind {P : List Int → Prop} (h0 : P []) (h1 : ∀ l x, P l → P (l ++ [x])) (l : List Int) : P l := by
  have key : ∀ (n : Nat) (l : List Int), l.length = n → P l := by
    intro n
    induction n with
    | zero => intro l hl; rw [List.length_eq_zero_iff.1 hl]; exact h0
    | succ n ih =>
      intro l hl
      have hne : l ≠ [] := fun e => by rw [e] at hl; simp at hl
      rw [← List.dropLast_concat_getLast hne]
      exact h1 _ _ (ih _ (by simp [hl]))
  exact key _ l rfl
/-- Bytes as a number, the highest first. -/
def numL (l : List Int) : Int := l.foldl (fun a x => a * 256 + x) 0
theorem numL_snoc (l : List Int) (x : Int) : numL (l ++ [x]) = numL l * 256 + x := by simp [numL]
theorem numL_range {l : List Int} : (∀ x ∈ l, 0 ≤ x ∧ x ≤ 255) → 0 ≤ numL l ∧ numL l < 256 ^ l.length := by
  refine snoc_ind (P := fun l => (∀ x ∈ l, 0 ≤ x ∧ x ≤ 255) → 0 ≤ numL l ∧ numL l < 256 ^ l.length) ?_ ?_ l
  · intro h; simp [numL]
  · intro l x ih h
    have i := ih fun y hy => h y (by simp [hy])
    have hx := h x (by simp)
    rw [numL_snoc, List.length_append, List.length_singleton, Int.pow_succ]
    omega
def numV (s : ByteArray) : Int := if 4 < s.size then -1 else numL (bys s)
theorem num_byt (c : Nat) : ∀ n : Int, 0 ≤ n → n < 256 ^ c → numL (bytL c n) = n := by
  induction c with
  | zero => intro n h0 h1; simp at h1; simp [bytL, numL]; omega
  | succ c ih =>
    intro n h0 h1
    rw [Int.pow_succ] at h1
    rw [bytL, numL_snoc, ih (n / 256) (by omega) (by omega)]
    omega
theorem byt_num {l : List Int} : (∀ x ∈ l, 0 ≤ x ∧ x ≤ 255) → bytL l.length (numL l) = l := by
  refine snoc_ind (P := fun l => (∀ x ∈ l, 0 ≤ x ∧ x ≤ 255) → bytL l.length (numL l) = l) ?_ ?_ l
  · intro h; rfl
  · intro l x ih h
    have i := ih fun y hy => h y (by simp [hy])
    have hx := h x (by simp)
    rw [List.length_append, List.length_singleton, numL_snoc, bytL, show (numL l * 256 + x) / 256 = numL l by omega, show (numL l * 256 + x) % 256 = x by omega, i]
/-- NUMBER OF BYTES IS THE NUMBER, BYTES OF A NUMBER ARE THE BYTES. -/
theorem law_num {c : Nat} {n : Int} (hc : c ≤ 4) (h0 : 0 ≤ n) (h1 : n < 256 ^ c) : numV (bytV c n) = n := by
  unfold numV
  rw [bytV_size, if_neg (by omega), bytV_bys, num_byt c n h0 h1]
theorem law_byt {s : ByteArray} (h : s.size ≤ 4) : bytV s.size (numV s) = s := by
  unfold numV
  rw [if_neg (by omega)]
  refine bys_inj ?_
  rw [bytV_bys, ← bys_len, byt_num (bys_range s)]
theorem numV_range {s : ByteArray} (h : s.size ≤ 4) : 0 ≤ numV s ∧ numV s < 256 ^ s.size := by
  unfold numV
  rw [if_neg (by omega), ← bys_len]
  exact numL_range (bys_range s)
theorem numV_long {s : ByteArray} (h : 4 < s.size) : numV s = -1 := by unfold numV; rw [if_pos h]

/-- A Frame. -/
structure Fr where
  k : Int
  fl : Int
  st : Int
  b : ByteArray
/-- May a frame with this head be right? -/
def hdOk (k fl st n : Int) : Bool :=
  if inB fl 0 3 = false ∨ inB st 0 100000 = false ∨ inB n 0 1000 = false then false
  else if k = 1 then decide (0 < st) && (decide (fl < 2) || decide (0 < n))
  else if k = 2 then decide (0 < st) && decide (fl ≤ 1)
  else if k = 3 then decide (0 < st) && (decide (n = 1) && decide (fl = 0))
  else if k = 4 then decide (st = 0) && ((decide (n = 0) || decide (n = 3)) && decide (fl = 0))
  else if k = 5 then decide (st = 0) && (decide (n = 4) && decide (fl ≤ 1))
  else if k = 6 then decide (st = 0) && (decide (n = 4) && decide (fl = 0))
  else if k = 7 then decide (n = 3) && decide (fl = 0)
  else false
/-- The first byte, as a number; -1: there is none. -/
def fst0 (s : ByteArray) : Int := match bys s with | [] => -1 | x :: _ => x
def okFr (f : Fr) : Bool :=
  hdOk f.k f.fl f.st f.b.size &&
    (if f.k = 1 ∧ 2 ≤ f.fl then decide (fst0 f.b ≤ (f.b.size : Int) - 1) else if f.k = 7 then !(f.b.toList == (⟨#[0, 0, 0]⟩ : ByteArray).toList) else true)
theorem hd_parts {k fl st n : Int} (h : hdOk k fl st n = true) : 0 ≤ fl ∧ fl ≤ 3 ∧ 0 ≤ st ∧ st ≤ 100000 ∧ 0 ≤ n ∧ n ≤ 1000 ∧ 1 ≤ k ∧ k ≤ 7 := by
  unfold hdOk at h
  split at h
  · cases h
  · rename_i hc
    have h1 : inB fl 0 3 = true := by cases e : inB fl 0 3 <;> simp_all
    have h2 : inB st 0 100000 = true := by cases e : inB st 0 100000 <;> simp_all
    have h3 : inB n 0 1000 = true := by cases e : inB n 0 1000 <;> simp_all
    have i1 := inB_true h1
    have i2 := inB_true h2
    have i3 := inB_true h3
    have hk : 1 ≤ k ∧ k ≤ 7 := by
      repeat' split at h
      all_goals first | omega | cases h
    omega
theorem ok_head {f : Fr} (h : okFr f = true) : hdOk f.k f.fl f.st f.b.size = true := by unfold okFr at h; simp only [Bool.and_eq_true] at h; exact h.1

/-- The head of a frame: seven bytes. -/
def hdV (f : Fr) : ByteArray := bytV 2 f.b.size ++ (strOf [f.k, f.fl] ++ bytV 3 f.st)
def shwV (f : Fr) : ByteArray := if okFr f then hdV f ++ f.b else ⟨#[]⟩
theorem hdV_size (f : Fr) : (hdV f).size = 7 := by
  unfold hdV
  rw [ba_size_append, ba_size_append, bytV_size, bytV_size, strOf_size]; rfl
/-- What seven bytes tell: how many bytes come behind them, and the frame but for these. -/
def hdN (s : ByteArray) : Int := numV (s.extract 0 2)
def hdF (s b : ByteArray) : Fr := ⟨fst0 (s.extract 2 3), fst0 (s.extract 3 4), numV (s.extract 4 7), b⟩
def noFr : Fr := ⟨0, 0, 0, ⟨#[]⟩⟩
/-- One step: 0: more bytes are wanted; 1: no frame begins so; 2: a frame, and how many bytes it takes. -/
def stp (s : ByteArray) : Nat × Fr × Nat :=
  if s.size < 7 then (0, noFr, 0)
  else if hdOk (hdF s ⟨#[]⟩).k (hdF s ⟨#[]⟩).fl (hdF s ⟨#[]⟩).st (hdN s) = false then (1, noFr, 0)
  else if (s.size : Int) < 7 + hdN s then (0, noFr, 0)
  else if okFr (hdF s (s.extract 7 (7 + (hdN s).toNat))) = false then (1, noFr, 0)
  else (2, hdF s (s.extract 7 (7 + (hdN s).toNat)), 7 + (hdN s).toNat)
/-- The frames with which a text begins, what is left, and whether it may go on so. -/
def frmF : Nat → List Fr → ByteArray → List Fr × ByteArray × Bool
  | 0, out, s => (out, s, true)
  | n + 1, out, s =>
    if (stp s).1 = 0 then (out, s, true)
    else if (stp s).1 = 1 then (out, s, false)
    else frmF n (out ++ [(stp s).2.1]) (s.extract (stp s).2.2 s.size)
def frmV (s : ByteArray) : List Fr × ByteArray × Bool := frmF (s.size + 1) [] s

theorem fst0_one {x : Int} {s : ByteArray} (h : bys s = [x]) : fst0 s = x := by unfold fst0; rw [h]
/-- Seven bytes at least: the first of them by name. -/
theorem seven {s : ByteArray} (h : 7 ≤ s.size) : ∃ a0 a1 k f c0 c1 c2 r, bys s = a0 :: a1 :: k :: f :: c0 :: c1 :: c2 :: r := by
  have hl := bys_len s
  match e : bys s with
  | [] => rw [e] at hl; simp at hl; omega
  | [_] => rw [e] at hl; simp at hl; omega
  | [_, _] => rw [e] at hl; simp at hl; omega
  | [_, _, _] => rw [e] at hl; simp at hl; omega
  | [_, _, _, _] => rw [e] at hl; simp at hl; omega
  | [_, _, _, _, _] => rw [e] at hl; simp at hl; omega
  | [_, _, _, _, _, _] => rw [e] at hl; simp at hl; omega
  | a0 :: a1 :: k :: f :: c0 :: c1 :: c2 :: r => exact ⟨a0, a1, k, f, c0, c1, c2, r, rfl⟩
theorem head7 {s : ByteArray} {a0 a1 k f c0 c1 c2 : Int} {r : List Int} (h : bys s = a0 :: a1 :: k :: f :: c0 :: c1 :: c2 :: r) (b : ByteArray) :
    hdN s = a0 * 256 + a1 ∧ hdF s b = ⟨k, f, (c0 * 256 + c1) * 256 + c2, b⟩ := by
  have hz : 7 ≤ s.size := by have := bys_len s; rw [h] at this; simp at this; omega
  have e1 : bys (s.extract 0 2) = [a0, a1] := by rw [bys_extract, h]; rfl
  have e2 : bys (s.extract 2 3) = [k] := by rw [bys_extract, h]; rfl
  have e3 : bys (s.extract 3 4) = [f] := by rw [bys_extract, h]; rfl
  have e4 : bys (s.extract 4 7) = [c0, c1, c2] := by rw [bys_extract, h]; rfl
  have z1 : (s.extract 0 2).size = 2 := by rw [← bys_len, e1]; rfl
  have z4 : (s.extract 4 7).size = 3 := by rw [← bys_len, e4]; rfl
  refine ⟨?_, ?_⟩
  · unfold hdN numV
    rw [z1, if_neg (by omega), e1]
    simp [numL]
  · unfold hdF
    rw [fst0_one e2, fst0_one e3]
    unfold numV
    rw [z4, if_neg (by omega), e4]
    simp [numL]
theorem bytL2 (n : Int) : bytL 2 n = [n / 256 % 256, n % 256] := rfl
theorem bytL3 (n : Int) : bytL 3 n = [n / 256 / 256 % 256, n / 256 % 256, n % 256] := rfl
theorem hdV_bys {f : Fr} (h1 : 0 ≤ f.k ∧ f.k ≤ 255) (h2 : 0 ≤ f.fl ∧ f.fl ≤ 255) (t : ByteArray) :
    bys (hdV f ++ t) = ((f.b.size : Int) / 256 % 256) :: ((f.b.size : Int) % 256) :: f.k :: f.fl :: (f.st / 256 / 256 % 256) :: (f.st / 256 % 256) :: (f.st % 256) :: bys t := by
  unfold hdV
  rw [bys_append, bys_append, bys_append, bytV_bys, bytV_bys, bytL2, bytL3, bys_strOf (l := [f.k, f.fl]) (by intro x hx; simp at hx; rcases hx with rfl | rfl; exact h1; exact h2)]
  rfl
/-- A frame is told of what it is shown as, whatever comes behind. -/
theorem stp_shown {f : Fr} (h : okFr f = true) (t : ByteArray) : stp (hdV f ++ (f.b ++ t)) = (2, f, 7 + f.b.size) := by
  have hh := ok_head h
  obtain ⟨p1, p2, p3, p4, p5, p6, p7, p8⟩ := hd_parts hh
  have hb := hdV_bys (f := f) (by omega) (by omega) (f.b ++ t)
  obtain ⟨e1, _⟩ := head7 hb ⟨#[]⟩
  have eN : hdN (hdV f ++ (f.b ++ t)) = f.b.size := by rw [e1]; omega
  have eF : ∀ b, hdF (hdV f ++ (f.b ++ t)) b = ⟨f.k, f.fl, f.st, b⟩ := fun b => by
    rw [(head7 hb b).2]
    have : (f.st / 256 / 256 % 256 * 256 + f.st / 256 % 256) * 256 + f.st % 256 = f.st := by omega
    rw [this]
  have hz : (hdV f ++ (f.b ++ t)).size = 7 + f.b.size + t.size := by rw [ba_size_append, ba_size_append, hdV_size]; omega
  have hx : (hdV f ++ (f.b ++ t)).extract 7 (7 + f.b.size) = f.b := by
    have := ba_mid (hdV f) f.b t
    rw [hdV_size, ba_append_assoc] at this
    exact this
  unfold stp
  rw [eN, if_neg (by omega), eF]
  simp only
  rw [if_neg (by rw [hh]; simp), if_neg (by omega), Int.toNat_natCast, hx, eF, if_neg (by rw [h]; simp)]
/-- What is told begins the text, and is right. -/
theorem stp_is {s : ByteArray} (h : (stp s).1 ≠ 0) (h' : (stp s).1 ≠ 1) : okFr (stp s).2.1 = true ∧ (stp s).2.2 = 7 + (stp s).2.1.b.size ∧ (stp s).2.2 ≤ s.size ∧ s = (hdV (stp s).2.1 ++ (stp s).2.1.b) ++ s.extract (stp s).2.2 s.size ∧ (stp s).1 = 2 := by
  unfold stp at h h' ⊢
  split at h
  · simp at h
  rename_i c1
  rw [if_neg c1] at h' ⊢
  split at h'
  · simp at h'
  rename_i c2
  rw [if_neg c2] at h ⊢
  split at h
  · simp at h
  rename_i c3
  rw [if_neg c3] at h' ⊢
  split at h'
  · simp at h'
  rename_i c4
  rw [if_neg c4]
  simp only
  obtain ⟨a0, a1, k, f, c0, c1', c2', r, hb⟩ := seven (s := s) (by omega)
  have hr := bys_range s
  rw [hb] at hr
  have ra0 := hr a0 (by simp)
  have ra1 := hr a1 (by simp)
  have rk := hr k (by simp)
  have rf := hr f (by simp)
  have rc0 := hr c0 (by simp)
  have rc1 := hr c1' (by simp)
  have rc2 := hr c2' (by simp)
  have e1 := (head7 hb ⟨#[]⟩).1
  have eF := fun b => (head7 hb b).2
  have hN : (hdN s).toNat = (a0 * 256 + a1).toNat := by rw [e1]
  have hle : 7 + (hdN s).toNat ≤ s.size := by omega
  have hbz : (s.extract 7 (7 + (hdN s).toNat)).size = (hdN s).toNat := by rw [ba_extract_size hle (by omega)]; omega
  have hok : okFr (hdF s (s.extract 7 (7 + (hdN s).toNat))) = true := by simpa using c4
  refine ⟨hok, by rw [eF]; simp only; rw [hbz], hle, ?_, trivial⟩
  have hsz : ((hdV (hdF s (s.extract 7 (7 + (hdN s).toNat)))) ++ s.extract 7 (7 + (hdN s).toNat)) = s.extract 0 (7 + (hdN s).toNat) := by
    refine bys_inj ?_
    have hk2 : (hdF s (s.extract 7 (7 + (hdN s).toNat))).k = k := by rw [eF]
    have hf2 : (hdF s (s.extract 7 (7 + (hdN s).toNat))).fl = f := by rw [eF]
    have hs2 : (hdF s (s.extract 7 (7 + (hdN s).toNat))).st = (c0 * 256 + c1') * 256 + c2' := by rw [eF]
    have hb2 : (hdF s (s.extract 7 (7 + (hdN s).toNat))).b = s.extract 7 (7 + (hdN s).toNat) := by rw [eF]
    rw [hdV_bys (by rw [hk2]; omega) (by rw [hf2]; omega), hk2, hf2, hs2, hb2, hbz, bys_extract, bys_extract, hb]
    have hn : ((hdN s).toNat : Int) = a0 * 256 + a1 := by omega
    rw [hn, Nat.add_comm 7]
    simp only [List.take_succ_cons, List.drop_succ_cons, List.drop_zero]
    have q1 : (a0 * 256 + a1) / 256 % 256 = a0 := by omega
    have q2 : (a0 * 256 + a1) % 256 = a1 := by omega
    have q3 : ((c0 * 256 + c1') * 256 + c2') / 256 / 256 % 256 = c0 := by omega
    have q4 : ((c0 * 256 + c1') * 256 + c2') / 256 % 256 = c1' := by omega
    have q5 : ((c0 * 256 + c1') * 256 + c2') % 256 = c2' := by omega
    rw [q1, q2, q3, q4, q5]
  have hb3 : (hdF s (s.extract 7 (7 + (hdN s).toNat))).b = s.extract 7 (7 + (hdN s).toNat) := by rw [eF]
  rw [hb3, hsz]
  exact (ba_split s _ hle).symm

theorem stp_three (s : ByteArray) : (stp s).1 = 0 ∨ (stp s).1 = 1 ∨ (stp s).1 = 2 := by
  by_cases h0 : (stp s).1 = 0
  · exact .inl h0
  · by_cases h1 : (stp s).1 = 1
    · exact .inr (.inl h1)
    · exact .inr (.inr (stp_is h0 h1).2.2.2.2)
theorem stp_two {s : ByteArray} (h : (stp s).1 = 2) : okFr (stp s).2.1 = true ∧ (stp s).2.2 = 7 + (stp s).2.1.b.size ∧ (stp s).2.2 ≤ s.size ∧ s = (hdV (stp s).2.1 ++ (stp s).2.1.b) ++ s.extract (stp s).2.2 s.size := by
  obtain ⟨a, b, c, d, _⟩ := stp_is (s := s) (by omega) (by omega)
  exact ⟨a, b, c, d⟩
theorem rest_size {s : ByteArray} (h : (stp s).1 = 2) : (s.extract (stp s).2.2 s.size).size < s.size := by
  obtain ⟨_, h2, h3, _⟩ := stp_two h
  rw [ba_extract_size (Nat.le_refl _) h3]; omega
theorem frm_out (n : Nat) : ∀ (out : List Fr) (s : ByteArray), frmF n out s = (out ++ (frmF n [] s).1, (frmF n [] s).2) := by
  induction n with
  | zero => intro out s; simp [frmF]
  | succ n ih =>
    intro out s
    rw [frmF, frmF]
    split
    · simp
    · split
      · simp
      · rw [ih, ih ([] ++ [_])]; simp
theorem frm_fuel (n : Nat) : ∀ (m : Nat) (out : List Fr) (s : ByteArray), s.size < n → s.size < m → frmF n out s = frmF m out s := by
  induction n with
  | zero => intro m out s h; omega
  | succ n ih =>
    intro m out s h1 h2
    cases m with
    | zero => omega
    | succ m =>
      rw [frmF, frmF]
      split
      · rfl
      · split
        · rfl
        · rename_i c0 c1
          have h := (stp_is c0 c1).2.2.2.2
          have hr := rest_size h
          exact ih m _ _ (by omega) (by omega)
/-- The frames of a text, one step at a time. -/
theorem frm_step (s : ByteArray) : frmV s = if (stp s).1 = 0 then ([], s, true) else if (stp s).1 = 1 then ([], s, false) else ((stp s).2.1 :: (frmV (s.extract (stp s).2.2 s.size)).1, (frmV (s.extract (stp s).2.2 s.size)).2) := by
  conv => lhs; unfold frmV
  rw [frmF]
  split
  · rfl
  · split
    · rfl
    · rename_i c0 c1
      have h := (stp_is c0 c1).2.2.2.2
      have hr := rest_size h
      rw [frm_out, frm_fuel s.size ((s.extract (stp s).2.2 s.size).size + 1) _ _ hr (by omega)]
      rfl
/-- What the frames of a list are shown as, one behind the other. -/
def catV : List Fr → ByteArray
  | [] => ⟨#[]⟩
  | f :: l => shwV f ++ catV l
theorem catV_cons (f : Fr) (l : List Fr) : catV (f :: l) = shwV f ++ catV l := rfl
theorem shw_ok {f : Fr} (h : okFr f = true) : shwV f = hdV f ++ f.b := by unfold shwV; rw [if_pos h]
/-- WHAT IS TOLD IS RIGHT, AND SHOWN IT IS THE TEXT, with what is left behind it. -/
theorem law_told (n : Nat) : ∀ s : ByteArray, s.size ≤ n → (∀ f ∈ (frmV s).1, okFr f = true) ∧ catV (frmV s).1 ++ (frmV s).2.1 = s := by
  induction n with
  | zero =>
    intro s h
    have h0 : (stp s).1 = 0 := by unfold stp; rw [if_pos (by omega)]
    rw [frm_step, if_pos h0]
    exact ⟨fun f hf => (by cases hf), by show (⟨#[]⟩ : ByteArray) ++ s = s; exact ba_nil_append s⟩
  | succ n ih =>
    intro s h
    rw [frm_step]
    split
    · exact ⟨fun f hf => (by cases hf), by show (⟨#[]⟩ : ByteArray) ++ s = s; exact ba_nil_append s⟩
    · split
      · exact ⟨fun f hf => (by cases hf), by show (⟨#[]⟩ : ByteArray) ++ s = s; exact ba_nil_append s⟩
      · rename_i c0 c1
        have h2 := (stp_is c0 c1).2.2.2.2
        obtain ⟨hok, _, _, hs⟩ := stp_two h2
        have hr := rest_size h2
        obtain ⟨i1, i2⟩ := ih (s.extract (stp s).2.2 s.size) (by omega)
        refine ⟨fun f hf => ?_, ?_⟩
        · rcases List.mem_cons.1 hf with rfl | hf
          · exact hok
          · exact i1 f hf
        · dsimp only
          rw [catV_cons]
          have hw := shw_ok hok
          generalize stp s = S at hs i2 hw ⊢
          rw [ba_append_assoc, i2, hw]
          exact hs.symm
/-- A frame ahead of whatever else. -/
theorem frm_cons {f : Fr} (h : okFr f = true) (u : ByteArray) : frmV (shwV f ++ u) = (f :: (frmV u).1, (frmV u).2) := by
  have e : shwV f ++ u = hdV f ++ (f.b ++ u) := by rw [shw_ok h, ba_append_assoc]
  have hs := stp_shown h u
  rw [frm_step, e, hs]
  simp only
  have hx : (hdV f ++ (f.b ++ u)).extract (7 + f.b.size) (hdV f ++ (f.b ++ u)).size = u := by
    have h2 : (hdV f ++ f.b).size = 7 + f.b.size := by rw [ba_size_append, hdV_size]
    rw [← ba_append_assoc, ← h2]
    exact ba_right _ _
  rw [hx]
  simp
theorem ext_left {p q : ByteArray} {i j : Nat} (h : j ≤ p.size) : (p ++ q).extract i j = p.extract i j := by
  refine bys_inj ?_
  rw [bys_extract, bys_extract, bys_append, List.take_append_of_le_length (by rw [bys_len]; exact h)]
theorem ext_rest {p q : ByteArray} {m : Nat} (h : m ≤ p.size) : (p ++ q).extract m (p ++ q).size = p.extract m p.size ++ q := by
  refine bys_inj ?_
  have t1 : (bys (p ++ q)).take (p ++ q).size = bys (p ++ q) := List.take_of_length_le (by rw [bys_len]; omega)
  have t2 : (bys p).take p.size = bys p := List.take_of_length_le (by rw [bys_len]; omega)
  rw [bys_extract, t1, bys_append, bys_append, bys_extract, t2, List.drop_append_of_le_length (by rw [bys_len]; exact h)]
theorem head_same {p : ByteArray} (h : 7 ≤ p.size) (q : ByteArray) : hdN (p ++ q) = hdN p ∧ ∀ b, hdF (p ++ q) b = hdF p b := by
  refine ⟨?_, fun b => ?_⟩
  · unfold hdN; rw [ext_left (by omega)]
  · unfold hdF; rw [ext_left (by omega), ext_left (by omega), ext_left (by omega)]
theorem stp_more {p : ByteArray} (h : (stp p).1 = 2) (q : ByteArray) : stp (p ++ q) = stp p := by
  obtain ⟨hok, h2, h3, hs⟩ := stp_two h
  have e : p ++ q = hdV (stp p).2.1 ++ ((stp p).2.1.b ++ (p.extract (stp p).2.2 p.size ++ q)) := by
    conv => lhs; rw [hs]
    rw [ba_append_assoc, ba_append_assoc]
  have := stp_shown hok (p.extract (stp p).2.2 p.size ++ q)
  rw [← e] at this
  rw [this, ← h2, ← h]
theorem stp_bad {p : ByteArray} (h : (stp p).1 = 1) (q : ByteArray) : (stp (p ++ q)).1 = 1 := by
  have hz := ba_size_append p q
  unfold stp at h
  split at h
  · simp at h
  rename_i c1
  obtain ⟨hN, hF⟩ := head_same (p := p) (by omega) q
  split at h
  · rename_i c2
    unfold stp
    rw [if_neg (by omega), hN, hF, if_pos c2]
  · rename_i c2
    split at h
    · simp at h
    rename_i c3
    split at h
    · rename_i c4
      unfold stp
      rw [if_neg (by omega), hN, hF, if_neg c2, if_neg (by omega), ext_left (by omega), hF, if_pos c4]
    · simp at h
/-- IN WHATEVER PIECES. -/
theorem law_pieces (n : Nat) : ∀ p : ByteArray, p.size ≤ n → ∀ q, ((frmV p).2.2 = true → frmV (p ++ q) = ((frmV p).1 ++ (frmV ((frmV p).2.1 ++ q)).1, (frmV ((frmV p).2.1 ++ q)).2)) ∧ ((frmV p).2.2 = false → frmV (p ++ q) = ((frmV p).1, (frmV p).2.1 ++ q, false)) := by
  induction n with
  | zero =>
    intro p h q
    have h0 : (stp p).1 = 0 := by unfold stp; rw [if_pos (by omega)]
    have e : frmV p = ([], p, true) := by rw [frm_step, if_pos h0]
    rw [e]
    exact ⟨fun _ => rfl, fun h => (by cases h)⟩
  | succ n ih =>
    intro p h q
    rcases stp_three p with h0 | h1 | h2
    · have e : frmV p = ([], p, true) := by rw [frm_step, if_pos h0]
      rw [e]
      exact ⟨fun _ => rfl, fun h => (by cases h)⟩
    · have e : frmV p = ([], p, false) := by rw [frm_step, if_neg (by omega), if_pos h1]
      rw [e]
      refine ⟨fun h => (by cases h), fun _ => ?_⟩
      have hb := stp_bad h1 q
      rw [frm_step, if_neg (by omega), if_pos hb]
    · have e : frmV p = ((stp p).2.1 :: (frmV (p.extract (stp p).2.2 p.size)).1, (frmV (p.extract (stp p).2.2 p.size)).2) := by rw [frm_step, if_neg (by omega), if_neg (by omega)]
      have hr := rest_size h2
      obtain ⟨i1, i2⟩ := ih (p.extract (stp p).2.2 p.size) (by omega) q
      have hm := stp_more h2 q
      have e2 : frmV (p ++ q) = ((stp p).2.1 :: (frmV (p.extract (stp p).2.2 p.size ++ q)).1, (frmV (p.extract (stp p).2.2 p.size ++ q)).2) := by
        rw [frm_step, hm, if_neg (by omega), if_neg (by omega), ext_rest (stp_two h2).2.2.1]
      rw [e2, e]
      simp only
      refine ⟨fun h => ?_, fun h => ?_⟩
      · rw [i1 h]; simp
      · rw [i2 h]
/-- All but the last byte of a frame: more is wanted. -/
theorem stp_short {f : Fr} (h : okFr f = true) : (stp ((shwV f).extract 0 ((shwV f).size - 1))).1 = 0 := by
  have hh := ok_head h
  obtain ⟨p1, p2, p3, p4, p5, p6, p7, p8⟩ := hd_parts hh
  rw [shw_ok h]
  have hz : (hdV f ++ f.b).size = 7 + f.b.size := by rw [ba_size_append, hdV_size]
  have hy : ((hdV f ++ f.b).extract 0 ((hdV f ++ f.b).size - 1)).size = 6 + f.b.size := by rw [ba_extract_size (by omega) (by omega)]; omega
  by_cases h0 : f.b.size = 0
  · unfold stp; rw [if_pos (by omega)]
  · obtain ⟨t, ht⟩ : ∃ t, (hdV f ++ f.b).extract 0 ((hdV f ++ f.b).size - 1) = t := ⟨_, rfl⟩
    rw [ht] at hy ⊢
    have hs : t ++ (hdV f ++ f.b).extract ((hdV f ++ f.b).size - 1) (hdV f ++ f.b).size = hdV f ++ f.b := by rw [← ht]; exact ba_split _ _ (by omega)
    obtain ⟨hN, hF⟩ := head_same (p := t) (by omega) ((hdV f ++ f.b).extract ((hdV f ++ f.b).size - 1) (hdV f ++ f.b).size)
    rw [hs] at hN hF
    have hb := hdV_bys (f := f) (by omega) (by omega) f.b
    have e1 := (head7 hb ⟨#[]⟩).1
    have eN : hdN t = f.b.size := by rw [← hN, e1]; omega
    have eF : hdF t ⟨#[]⟩ = ⟨f.k, f.fl, f.st, ⟨#[]⟩⟩ := by
      rw [← hF, (head7 hb ⟨#[]⟩).2]
      have : (f.st / 256 / 256 % 256 * 256 + f.st / 256 % 256) * 256 + f.st % 256 = f.st := by omega
      rw [this]
    unfold stp
    rw [if_neg (by omega), eN, eF]
    dsimp only
    rw [if_neg (by rw [hh]; simp), if_pos (by omega)]
/-- A FRAME TWICE AND ALL BUT ITS LAST BYTE. -/
theorem law_twice {f : Fr} (h : okFr f = true) : frmV (shwV f ++ (shwV f ++ (shwV f).extract 0 ((shwV f).size - 1))) = ([f, f], (shwV f).extract 0 ((shwV f).size - 1), true) := by
  rw [frm_cons h, frm_cons h, frm_step, if_pos (stp_short h)]
/-- What a frame carries: behind the first byte, without as many last bytes as it tells. -/
def payV (f : Fr) : ByteArray := if okFr f then (if f.k = 1 ∧ 2 ≤ f.fl then f.b.extract 1 ((f.b.size : Int) - fst0 f.b).toNat else f.b) else ⟨#[]⟩
theorem pay_le (f : Fr) : (payV f).size ≤ f.b.size := by
  unfold payV
  split
  · split
    · rw [← bys_len, bys_extract, List.length_drop, List.length_take, bys_len]; omega
    · exact Nat.le_refl _
  · exact Nat.zero_le _
end Go.Proofs.Ytllaeakeaabiaaa
/- How long a mark's text is. -/
namespace Go.Proofs.Ytllaeakeaabiaaa
open Go.RowKit
set_option maxRecDepth 100000
set_option linter.unusedSimpArgs false
set_option linter.unusedVariables false
theorem mtF_size : ∀ (n k : Nat) (acc : ByteArray), (mtF n k acc).size ≤ acc.size + n
  | 0, k, acc => by simp [mtF]
  | n + 1, k, acc => by
    unfold mtF
    split
    · omega
    · have := mtF_size n (k / 10) (strOf [48 + ((k % 10 : Nat) : Int)] ++ acc)
      rw [ByteArray.size_append, strOf_size] at this
      simp only [List.length_singleton] at this
      omega
theorem mtx_size (k : Nat) : (mtx k).size ≤ k + 2 := by
  unfold mtx
  split
  · have : (⟨#[109, 48]⟩ : ByteArray).size = 2 := rfl
    omega
  · have := mtF_size k k ⟨#[]⟩
    have h0 : (⟨#[]⟩ : ByteArray).size = 0 := rfl
    have h1 : (⟨#[109]⟩ : ByteArray).size = 1 := rfl
    rw [ByteArray.size_append]
    omega
end Go.Proofs.Ytllaeakeaabiaaa
/- Chapter 8's model: Granted, Used, Moved, Fits. -/
namespace Go.Proofs.Ytllaeakeaabiaaa
open Go.RowKit
set_option maxRecDepth 100000
set_option linter.unusedSimpArgs false
set_option linter.unusedVariables false
theorem specWin (x : Int) (w : World) : Calls Try.prog 19 #[.int .i64 x] w fun e w' => e = .returned (.bool (winB x)) ∧ w' = w := by
  go_enter Try.func19, Try.ntmps19
  go_wp2_with fail
  refine (specIn _ _ _ _).mono ?_; rintro e w1 ⟨rfl, hsame⟩; obtain rfl := hsame.symm; clear hsame
  go_wp2_with fail
  go_ret
  exact ⟨rfl, rfl⟩
end Go.Proofs.Ytllaeakeaabiaaa
/- Rows of int64: copied, held against each other, marked, read again, counted. -/
namespace Go.Proofs.Ytllaeakeaabiaaa
open Go.RowKit
set_option maxRecDepth 100000
set_option linter.unusedSimpArgs false
set_option linter.unusedVariables false

def iv (L : List Int) : List Value := L.map (Value.int .i64)
theorem iv_len (L : List Int) : (iv L).length = L.length := by simp [iv]
theorem iv_get (L : List Int) (k : Nat) (h : k < L.length) : (iv L)[k]? = some (.int .i64 L[k]) := by simp [iv, h]

/-- n marks, from k on. -/
def mk (k : Int) (n : Nat) : List Value := (List.range n).map fun (j : Nat) => Value.int .i64 (k + j)
theorem mk_len (k : Int) (n : Nat) : (mk k n).length = n := by simp [mk]
theorem mk_get (k : Int) (n j : Nat) (h : j < n) : (mk k n)[j]? = some (.int .i64 (k + j)) := by simp [mk, h]

end Go.Proofs.Ytllaeakeaabiaaa
/- Chapter 8's program: Granted, Used, Moved, Fits; what a window becomes is handed on as a method expression. -/
namespace Go.Proofs.Ytllaeakeaabiaaa
open Go.RowKit
set_option maxRecDepth 100000
set_option linter.unusedSimpArgs false
set_option linter.unusedVariables false
theorem implWin (x : Int) (w : World) : Calls Try.prog 47 #[.int .i64 x] w fun e w' => e = .returned (.bool (winB x)) ∧ w' = w := by
  go_enter Try.func47, Try.ntmps47
  go_wp2_with fail
  refine (implWithin _ _ _ _).mono ?_; rintro e w1 ⟨rfl, hsame⟩; obtain rfl := hsame.symm; clear hsame
  go_wp2_with fail
  go_ret
  exact ⟨rfl, rfl⟩
/-- What a change leaves: the window behind it, where both are windows. -/
def chV (x y : Int) : Int × Bool := if winB x = true ∧ winB y = true then (y, true) else (x, false)
end Go.Proofs.Ytllaeakeaabiaaa
/- What each Go function of chapter 1 (pipes) answers at every argument, the second half: those that hand back a pipe. -/
namespace Go.Proofs.Ytllaeakeaabiaaa
open Go.RowKit
set_option maxRecDepth 100000
set_option linter.unusedSimpArgs false
set_option linter.unusedVariables false







end Go.Proofs.Ytllaeakeaabiaaa
