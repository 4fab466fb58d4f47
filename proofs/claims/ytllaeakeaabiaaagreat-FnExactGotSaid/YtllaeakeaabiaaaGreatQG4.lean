/- Several small texts of one level, one behind the other. -/
import Derived.Test.YtllaeakeaabiaaaGreatQG3
import Derived.Test.YtllaeakeaabiaaaGreatQG2
import Derived.Handy
import Derived.Lib.ConvBytes
import Derived.Deep.RegionLaw
import Derived.Deep.DrawnRows
import Derived.Lib.SmallJoins
import Derived.Lib.EndianBits
import Derived.WalkKit
import Derived.ProofKit
import Derived.OpenShut
import Derived.Laws.Cover1
/- Rows of whatever make: a row that is being filled, marks, sums. -/
namespace Go.Proofs.YtllaeakeaabiaaaGreat
open Go.RowKit
set_option maxRecDepth 100000
set_option linter.unusedSimpArgs false
set_option linter.unusedVariables false

section
variable {D : Type} (E : Shp D)
/-- A new row of as many elements as L has, of which the first k are filled with L's. -/
def Filling (w wr : World) (L : List D) (k : Nat) : Prop :=
  k ≤ L.length ∧ Below w.heap.size w wr ∧ w.heap.size < wr.heap.size ∧ ∃ (ts : List (List Value × D × List Nat)) (R : List Value), ts.map (·.2.1) = L.take k ∧ R.length = (L.length - k) * E.size ∧
    wr.ownsRow 0 E.ty E.size (.slice (some ⟨w.heap.size, 0, none⟩) L.length L.length) L.length (ts.flatMap (·.1) ++ R) ∧
    (∀ t ∈ ts, E.own wr t.1 t.2.1 t.2.2) ∧ (ts.flatMap (·.2.2)).Nodup ∧ ∀ b ∈ ts.flatMap (·.2.2), w.heap.size < b
variable {E}
theorem filling_start {w : World} {M : Array Value} {L : List D} (ho : (w.alloc (.cells M E.ty)).ownsRow w.heap.size E.ty E.size (.slice (some ⟨w.heap.size, 0, none⟩) L.length L.length) L.length M.toList) : Filling E w (w.alloc (.cells M E.ty)) L 0 :=
  ⟨Nat.zero_le _, (Below.refl _ _).alloc (Nat.le_refl _) _, by simp, [], M.toList, by simp, by simpa using ho.1, by simpa using owns_base ho (fun k hk => Nat.zero_le _), by simp, by simp, by simp⟩
theorem filling_step {w wr w1 : World} {L : List D} {k : Nat} {cs : List Value} (h : Filling E w wr L k) (hk : k < L.length) (hb : Below wr.heap.size wr w1) (hd : OwE E w1 wr.heap.size w1.heap.size cs L[k]) :
    (∀ r, r < E.size → ∃ u, w1.cell? ⟨w.heap.size, k * E.size + r, none⟩ = some u) ∧ (∀ j, w1.frozen? ⟨w.heap.size, j, none⟩ = false) ∧ w.heap.size < w1.heap.size ∧ Filling E w (setsFrom w1 w.heap.size (k * E.size) cs) L (k + 1) := by
  obtain ⟨hle, hbw, hlt, ts, R, hts, hR, ho, hE, hnd, hlo⟩ := h
  obtain ⟨b2, hd1, hd2, hd3⟩ := hd
  have ho1 := owns_new ho hb
  have hlen : ∀ t ∈ ts, t.1.length = E.size := fun t ht => E.rd_len (E.own_rd (hE t ht))
  have htl : ts.length = k := by have := congrArg List.length hts; simp at this; omega
  have hfl : (ts.flatMap (fun t : List Value × D × List Nat => t.1)).length = k * E.size := by rw [flat_len _ E.size ts hlen, htl]
  have hcl := E.rd_len (E.own_rd hd1)
  have hsz : (L.length - k) * E.size = E.size + (L.length - (k + 1)) * E.size := by
    rw [show L.length - k = (L.length - (k + 1)) + 1 by omega, Nat.succ_mul]; omega
  obtain ⟨g, cap, e1, hg, _, hgl, _, _, hc, hf⟩ := owns_open ho1 (by omega)
  simp only [Value.slice.injEq, Option.some.injEq, Addr.mk.injEq] at e1
  obtain ⟨⟨rfl, _, _⟩, _, _⟩ := e1
  refine ⟨fun r hr => ?_, hf, by have := hb.size; omega, by omega, ?_, ?_, ts ++ [(cs, L[k], b2)], R.drop E.size, ?_, ?_, ?_, ?_, ?_, ?_⟩
  · have hin : k * E.size + r < (ts.flatMap (fun t : List Value × D × List Nat => t.1) ++ R).length := by rw [List.length_append, hfl, hR]; omega
    exact ⟨_, hc _ _ (List.getElem?_eq_getElem hin)⟩
  · exact setsFrom_below _ (Nat.le_refl _) _ _ _ (hbw.trans (hb.mono hbw.size))
  · rw [setsFrom_size]; have := hb.size; omega
  · rw [List.map_append, hts, List.take_succ_eq_append_getElem hk]; rfl
  · rw [List.length_drop, hR, hsz]; omega
  · have ho2 : w1.ownsRow 0 E.ty E.size (.slice (some ⟨w.heap.size, 0, none⟩) L.length L.length) L.length (ts.flatMap (·.1) ++ R.take E.size ++ R.drop E.size) := by rw [List.append_assoc, List.take_append_drop]; exact ho1
    have := owns_sets hg cs w1 _ _ _ ho2 (by rw [List.length_take, hR, hcl, hsz]; omega)
    rw [hfl] at this
    simpa using this
  · intro t ht
    rcases List.mem_append.1 ht with h | h
    · refine E.own_keep (hE t h) (by rw [setsFrom_size]; exact hb.size) fun x hx => ?_
      have hxm : x ∈ ts.flatMap (·.2.2) := List.mem_flatMap.2 ⟨t, h, hx⟩
      rw [setsFrom_other _ _ _ _ x (by have := hlo x hxm; omega)]
      exact hb.block x (E.own_lt (hE t h) x hx)
    · simp at h
      subst h
      refine E.own_keep hd1 (by rw [setsFrom_size]; exact Nat.le_refl _) fun x hx => setsFrom_other _ _ _ _ x (by have := hd3 x hx; omega)
  · rw [List.flatMap_append]
    refine nodup_mk hnd (by simpa using hd2) fun x hx hx2 => ?_
    obtain ⟨t, ht, hxt⟩ := List.mem_flatMap.1 hx
    have h1 := E.own_lt (hE t ht) x hxt
    have h2 : x ∈ b2 := by simpa using hx2
    have := hd3 x h2
    omega
  · intro x hx
    rw [List.flatMap_append] at hx
    rcases List.mem_append.1 hx with h | h
    · exact hlo x h
    · have h2 : x ∈ b2 := by simpa using h
      have := hd3 x h2
      omega
theorem filling_end {w wr : World} {L : List D} (h : Filling E w wr L L.length) : OwX E wr w.heap.size wr.heap.size (.slice (some ⟨w.heap.size, 0, none⟩) L.length L.length) L ∧ Below w.heap.size w wr := by
  obtain ⟨hle, hbw, hlt, ts, R, hts, hR, ho, hE, hnd, hlo⟩ := h
  have hR0 : R = [] := by rw [Nat.sub_self, Nat.zero_mul] at hR; exact List.length_eq_zero_iff.1 hR
  subst hR0
  rw [List.take_length] at hts
  have htl : ts.length = L.length := by rw [← hts]; simp
  refine ⟨⟨w.heap.size :: ts.flatMap (·.2.2), ⟨ts, hts.symm, by rw [htl]; simpa using ho, hE, by simp [Value.ownBlock]⟩, ?_, ?_⟩, hbw⟩
  · exact List.nodup_cons.2 ⟨fun h => by have := hlo _ h; omega, hnd⟩
  · intro b hb
    rcases List.mem_cons.1 hb with rfl | hb
    · omega
    · have := hlo b hb
      obtain ⟨t, ht, hbt⟩ := List.mem_flatMap.1 hb
      have := E.own_lt (hE t ht) b hbt
      omega
end
section
variable {D : Type} (mk1 : D → Nat → D) (c1 : D → Nat)
/-- The marks of a row, from k on; and how many. -/
def mkLs : List D → Nat → List D
  | [], _ => []
  | d :: L, k => mk1 d k :: mkLs L (k + c1 d)
def cntLs : List D → Nat
  | [] => 0
  | d :: L => c1 d + cntLs L
theorem cnt_app (A B : List D) : cntLs c1 (A ++ B) = cntLs c1 A + cntLs c1 B := by
  induction A with
  | nil => simp [cntLs]
  | cons a A ih => simp only [List.cons_append, cntLs, ih]; omega
theorem cnt_take (L : List D) (j : Nat) (h : j < L.length) : cntLs c1 (L.take (j + 1)) = cntLs c1 (L.take j) + c1 L[j] := by
  rw [List.take_succ_eq_append_getElem h, cnt_app]; simp [cntLs]
theorem cnt_le (L : List D) (j : Nat) : cntLs c1 (L.take j) ≤ cntLs c1 L := by
  have h : cntLs c1 L = cntLs c1 (L.take j) + cntLs c1 (L.drop j) := by rw [← cnt_app, List.take_append_drop]
  omega
theorem mk_len' (L : List D) (k : Nat) : (mkLs mk1 c1 L k).length = L.length := by
  induction L generalizing k with
  | nil => rfl
  | cons d L ih => simp [mkLs, ih]
theorem mk_app (A B : List D) (k : Nat) : mkLs mk1 c1 (A ++ B) k = mkLs mk1 c1 A k ++ mkLs mk1 c1 B (k + cntLs c1 A) := by
  induction A generalizing k with
  | nil => simp [mkLs, cntLs]
  | cons d A ih => simp only [List.cons_append, mkLs, cntLs, ih]; rw [Nat.add_assoc]
theorem mk_at (L : List D) (k j : Nat) (h : j < L.length) (h' : j < (mkLs mk1 c1 L k).length) : (mkLs mk1 c1 L k)[j] = mk1 L[j] (k + cntLs c1 (L.take j)) := by
  induction L generalizing k j with
  | nil => exact absurd h (Nat.not_lt_zero _)
  | cons d L ih =>
    cases j with
    | zero => simp [mkLs, cntLs]
    | succ j =>
      simp only [mkLs, List.getElem_cons_succ, List.take_succ_cons, cntLs]
      rw [ih (k + c1 d) j (by simpa using h) (by rw [mk_len']; simpa using h), Nat.add_assoc]
/-- Half marked: the first j. -/
def mixLs (L : List D) (k j : Nat) : List D := mkLs mk1 c1 (L.take j) k ++ L.drop j
theorem mix_len (L : List D) (k j : Nat) (h : j ≤ L.length) : (mixLs mk1 c1 L k j).length = L.length := by unfold mixLs; rw [List.length_append, mk_len', List.length_take, List.length_drop]; omega
theorem mix_at (L : List D) (k j : Nat) (h : j < L.length) (h' : j < (mixLs mk1 c1 L k j).length) : (mixLs mk1 c1 L k j)[j] = L[j] := by
  have e : (mixLs mk1 c1 L k j)[j]? = L[j]? := by
    unfold mixLs
    rw [List.getElem?_append_right (by rw [mk_len', List.length_take]; omega), mk_len', List.length_take, Nat.min_eq_left (Nat.le_of_lt h), Nat.sub_self, List.getElem?_drop]
    rfl
  rw [List.getElem?_eq_getElem h', List.getElem?_eq_getElem h] at e
  exact Option.some.inj e
theorem mix_step (L : List D) (k j : Nat) (h : j < L.length) : (mixLs mk1 c1 L k j).set j (mk1 L[j] (k + cntLs c1 (L.take j))) = mixLs mk1 c1 L k (j + 1) := by
  unfold mixLs
  rw [List.set_append_right _ _ (by rw [mk_len', List.length_take]; omega), List.take_succ_eq_append_getElem h, mk_app, mk_len', List.length_take, Nat.min_eq_left (Nat.le_of_lt h), Nat.sub_self, List.drop_eq_getElem_cons h]
  simp only [mkLs, List.set_cons_zero, List.append_assoc, List.cons_append, List.nil_append]
theorem mix_zero (L : List D) (k : Nat) : mixLs mk1 c1 L k 0 = L := by simp [mixLs, mkLs]
theorem mix_end (L : List D) (k : Nat) : mixLs mk1 c1 L k L.length = mkLs mk1 c1 L k := by simp [mixLs]
end
section
variable {D : Type} (f : D → Int)
/-- The sum over a row. -/
def sumLs : List D → Int
  | [] => 0
  | d :: L => f d + sumLs L
theorem sum_app (A B : List D) : sumLs f (A ++ B) = sumLs f A + sumLs f B := by
  induction A with
  | nil => simp [sumLs]
  | cons a A ih => simp only [List.cons_append, sumLs, ih]; omega
theorem sum_take (L : List D) (j : Nat) (h : j < L.length) : sumLs f (L.take (j + 1)) = sumLs f (L.take j) + f L[j] := by
  rw [List.take_succ_eq_append_getElem h, sum_app]; simp [sumLs]
theorem sum_nn (hf : ∀ d, 0 ≤ f d) (L : List D) : 0 ≤ sumLs f L := by
  induction L with
  | nil => simp [sumLs]
  | cons a A ih => have := hf a; simp only [sumLs]; omega
theorem sum_split (L : List D) (j : Nat) (h : j < L.length) : sumLs f L = sumLs f (L.take j) + f L[j] + sumLs f (L.drop (j + 1)) := by
  conv => lhs; rw [← List.take_append_drop (j + 1) L, sum_app, sum_take f L j h]
theorem sum_mem (hf : ∀ d, 0 ≤ f d) (L : List D) (d : D) (h : d ∈ L) : f d ≤ sumLs f L := by
  induction L with
  | nil => cases h
  | cons a A ih =>
    have := sum_nn f hf A
    have := hf a
    simp only [sumLs]
    rcases List.mem_cons.1 h with rfl | h
    · omega
    · have := ih h; omega
end
end Go.Proofs.YtllaeakeaabiaaaGreat
/- A slice that came in, of elements of whatever make, read as a list of data; structs of few one-cell fields within a row. -/
namespace Go.Proofs.YtllaeakeaabiaaaGreat
open Go.RowKit
set_option maxRecDepth 100000
set_option linter.unusedSimpArgs false
set_option linter.unusedVariables false
open Go.ChangeShapes Go.WideShapes Go.ChangeAt Go.Joins Go.Deep in
theorem open_shape {D : Type} {E : Shp D} (d0 : D) {H : Type} {enc : TypeId × Value → H} {W : World} {base : Nat} {spare : Nat → Bool} {held : Bool} {t e : TypeId} {fuel : Nat} {v : Value} {x : DataW H × List MemPlace}
    (ht : Tryz.prog.underlying t = some (.slice e)) (hs : Tryz.prog.cellsOf e = E.size)
    (hel : ∀ cs n y, DataW.trod enc Tryz.prog W base spare held n e cs = some y → ∃ d : D, E.rd W cs d)
    (h : DataW.trod enc Tryz.prog W base spare held fuel t [v] = some x) : ∃ L : List D, RdR E W v L := by
  obtain ⟨L, hL, hR⟩ := open_rows (α := {cs : List Value // cs.length = E.size} × D) (⟨List.replicate E.size (.int .i64 0), by simp⟩, d0) (fun x => x.1.1) E.size (fun x => x.1.2) (fun x => E.rd W x.1.1 x.2) ht hs E.pos (fun cs n y hy => by
    obtain ⟨d, hd⟩ := hel cs n y hy
    exact ⟨(⟨cs, E.rd_len hd⟩, d), rfl, hd⟩) h
  refine ⟨L.map (·.2), L.map fun x => (x.1.1, x.2), by simp [Function.comp_def], ?_, fun t ht => ?_⟩
  · simpa [List.flatMap_map] using hL
  · obtain ⟨x, hx, rfl⟩ := List.mem_map.1 ht
    exact hR x hx
open Go.ChangeShapes Go.WideShapes Go.ChangeAt Go.Joins Go.Deep in
theorem scells2 {H : Type} {enc : TypeId × Value → H} {W : World} {base : Nat} {spare : Nat → Bool} {held : Bool} {t : TypeId} {f0 f1 : Field} {fuel : Nat} {cs : List Value} {x : DataW H × List MemPlace} (hs : Tryz.prog.underlying t = some (.struct #[f0, f1])) (hone : oneCellFields Tryz.prog #[f0, f1] = true) (hC : Tryz.prog.cellsOf t = 2)
    (h : DataW.trod enc Tryz.prog W base spare held fuel t cs = some x) :
    ∃ (c0 c1 : Value) (y0 y1 : DataW H × List MemPlace) (n : Nat), cs = [c0, c1] ∧ DataW.trod enc Tryz.prog W base spare held n f0.type [c0] = some y0 ∧ DataW.trod enc Tryz.prog W base spare held n f1.type [c1] = some y1 := by
  obtain ⟨y0, y1, n, hx, hl, h0, h1⟩ := trod_struct2 hs h
  obtain ⟨o0, k0⟩ := hone_of hone 0 f0 rfl
  obtain ⟨o1, k1⟩ := hone_of hone 1 f1 rfl
  rw [hC] at hl
  match cs, hl with
  | [c0, c1], _ => exact ⟨c0, c1, y0, y1, n, rfl, by simpa [o0, k0] using h0, by simpa [o1, k1] using h1⟩
open Go.ChangeShapes Go.WideShapes Go.ChangeAt Go.Joins Go.Deep in
theorem scells3 {H : Type} {enc : TypeId × Value → H} {W : World} {base : Nat} {spare : Nat → Bool} {held : Bool} {t : TypeId} {f0 f1 f2 : Field} {fuel : Nat} {cs : List Value} {x : DataW H × List MemPlace} (hs : Tryz.prog.underlying t = some (.struct #[f0, f1, f2])) (hone : oneCellFields Tryz.prog #[f0, f1, f2] = true) (hC : Tryz.prog.cellsOf t = 3)
    (h : DataW.trod enc Tryz.prog W base spare held fuel t cs = some x) :
    ∃ (c0 c1 c2 : Value) (y0 y1 y2 : DataW H × List MemPlace) (n : Nat), cs = [c0, c1, c2] ∧ DataW.trod enc Tryz.prog W base spare held n f0.type [c0] = some y0 ∧ DataW.trod enc Tryz.prog W base spare held n f1.type [c1] = some y1 ∧ DataW.trod enc Tryz.prog W base spare held n f2.type [c2] = some y2 := by
  obtain ⟨y0, y1, y2, n, hx, hl, h0, h1, h2⟩ := trod_struct3 hs h
  obtain ⟨o0, k0⟩ := hone_of hone 0 f0 rfl
  obtain ⟨o1, k1⟩ := hone_of hone 1 f1 rfl
  obtain ⟨o2, k2⟩ := hone_of hone 2 f2 rfl
  rw [hC] at hl
  match cs, hl with
  | [c0, c1, c2], _ => exact ⟨c0, c1, c2, y0, y1, y2, n, rfl, by simpa [o0, k0] using h0, by simpa [o1, k1] using h1, by simpa [o2, k2] using h2⟩
open Go.ChangeShapes Go.WideShapes Go.ChangeAt Go.Joins Go.Deep in
theorem scells4 {H : Type} {enc : TypeId × Value → H} {W : World} {base : Nat} {spare : Nat → Bool} {held : Bool} {t : TypeId} {f0 f1 f2 f3 : Field} {fuel : Nat} {cs : List Value} {x : DataW H × List MemPlace} (hs : Tryz.prog.underlying t = some (.struct #[f0, f1, f2, f3])) (hone : oneCellFields Tryz.prog #[f0, f1, f2, f3] = true) (hC : Tryz.prog.cellsOf t = 4)
    (h : DataW.trod enc Tryz.prog W base spare held fuel t cs = some x) :
    ∃ (c0 c1 c2 c3 : Value) (y0 y1 y2 y3 : DataW H × List MemPlace) (n : Nat), cs = [c0, c1, c2, c3] ∧ DataW.trod enc Tryz.prog W base spare held n f0.type [c0] = some y0 ∧ DataW.trod enc Tryz.prog W base spare held n f1.type [c1] = some y1 ∧ DataW.trod enc Tryz.prog W base spare held n f2.type [c2] = some y2 ∧ DataW.trod enc Tryz.prog W base spare held n f3.type [c3] = some y3 := by
  obtain ⟨y0, y1, y2, y3, n, hx, hl, h0, h1, h2, h3⟩ := trod_struct4 hs h
  obtain ⟨o0, k0⟩ := hone_of hone 0 f0 rfl
  obtain ⟨o1, k1⟩ := hone_of hone 1 f1 rfl
  obtain ⟨o2, k2⟩ := hone_of hone 2 f2 rfl
  obtain ⟨o3, k3⟩ := hone_of hone 3 f3 rfl
  rw [hC] at hl
  match cs, hl with
  | [c0, c1, c2, c3], _ => exact ⟨c0, c1, c2, c3, y0, y1, y2, y3, n, rfl, by simpa [o0, k0] using h0, by simpa [o1, k1] using h1, by simpa [o2, k2] using h2, by simpa [o3, k3] using h3⟩
end Go.Proofs.YtllaeakeaabiaaaGreat
/- Tunnels in plain words: when one is right, what goes in, out and back, when it is over. -/
namespace Go.Proofs.YtllaeakeaabiaaaGreat
open Go.RowKit
set_option maxRecDepth 100000
set_option linter.unusedSimpArgs false
set_option linter.unusedVariables false
/-- A Pipe. -/
structure PpD where
  r : Int
  b : ByteArray
  e : Bool
  k : Bool
def zPp : PpD := ⟨0, ⟨#[]⟩, false, false⟩
abbrev pcs (p : PpD) : List Value := [.int .i64 p.r, .string p.b, .bool p.e, .bool p.k]
abbrev pv (p : PpD) : Value := .agg #[.int .i64 p.r, .string p.b, .bool p.e, .bool p.k]
structure TuD where
  up : PpD
  dn : PpD
  went : Int
  came : Int
def zTu : TuD := ⟨zPp, zPp, 0, 0⟩
abbrev tucs (t : TuD) : List Value := [.int .i64 t.up.r, .string t.up.b, .bool t.up.e, .bool t.up.k, .int .i64 t.dn.r, .string t.dn.b, .bool t.dn.e, .bool t.dn.k, .int .i64 t.went, .int .i64 t.came]
abbrev tuv (t : TuD) : Value := .agg #[.int .i64 t.up.r, .string t.up.b, .bool t.up.e, .bool t.up.k, .int .i64 t.dn.r, .string t.dn.b, .bool t.dn.e, .bool t.dn.k, .int .i64 t.went, .int .i64 t.came]
def okPp (p : PpD) : Bool := okB p.r p.b p.k
def okTu (t : TuD) : Bool := okPp t.up && okPp t.dn && inB t.went 0 1000000 && inB t.came 0 1000000
theorem okPp_true {p : PpD} (h : okPp p = true) : 1 ≤ p.r ∧ p.r ≤ 2000 ∧ (p.b.size : Int) ≤ p.r ∧ (p.k = true → p.b.size = 0) := by
  unfold okPp at h
  have h1 : 1 ≤ p.r ∧ p.r ≤ 2000 ∧ (p.b.size : Int) ≤ p.r := by
    unfold okB at h
    simp only [Bool.and_eq_true, decide_eq_true_eq] at h
    exact h.1
  refine ⟨h1.1, h1.2.1, h1.2.2, fun hk => ?_⟩
  rw [okB_rest h1, hk] at h
  simp at h
  rw [ByteArray.toList_eq] at h
  have : p.b.data.toList.length = 0 := by rw [h]; rfl
  simpa using this
theorem okPp_of {p : PpD} (h1 : 1 ≤ p.r) (h2 : p.r ≤ 2000) (h3 : (p.b.size : Int) ≤ p.r) (h4 : p.k = true → p.b.size = 0) : okPp p = true := by
  unfold okPp
  rw [okB_rest ⟨h1, h2, h3⟩]
  cases hk : p.k
  · rfl
  · have : p.b.toList = [] := by rw [ByteArray.toList_eq]; exact List.eq_nil_of_length_eq_zero (by simpa using h4 hk)
    simp [this]
theorem okTu_true {t : TuD} (h : okTu t = true) : okPp t.up = true ∧ okPp t.dn = true ∧ (0 ≤ t.went ∧ t.went ≤ 1000000) ∧ 0 ≤ t.came ∧ t.came ≤ 1000000 := by
  unfold okTu at h
  simp only [Bool.and_eq_true] at h
  obtain ⟨⟨⟨h1, h2⟩, h3⟩, h4⟩ := h
  exact ⟨h1, h2, inB_true h3, inB_true h4⟩
theorem okTu_of {t : TuD} (h1 : okPp t.up = true) (h2 : okPp t.dn = true) (h3 : 0 ≤ t.went ∧ t.went ≤ 1000000) (h4 : 0 ≤ t.came ∧ t.came ≤ 1000000) : okTu t = true := by
  unfold okTu
  rw [h1, h2, inB_of h3.1 h3.2, inB_of h4.1 h4.2]; rfl
def newTu (r : Int) : TuD × Bool := if newB r = true then (⟨⟨r, ⟨#[]⟩, false, false⟩, ⟨r, ⟨#[]⟩, false, false⟩, 0, 0⟩, true) else (zTu, false)
def inTu (t : TuD) (s : ByteArray) (fin : Bool) : TuD × Bool :=
  if okTu t = false then (zTu, false)
  else if t.up.e = true ∨ t.up.k = true ∨ t.up.r - t.up.b.size < s.size then (t, false)
  else (⟨⟨t.up.r, t.up.b ++ s, fin, t.up.k⟩, t.dn, t.went, t.came⟩, true)
/-- How many go out. -/
def outN (t : TuD) (n : Int) : Nat := (max 0 (min (min n (1000000 - t.went)) t.up.b.size)).toNat
def outTu (t : TuD) (n : Int) : TuD × ByteArray :=
  if okTu t = false then (zTu, ⟨#[]⟩)
  else (⟨⟨t.up.r, t.up.b.extract (outN t n) t.up.b.size, t.up.e, t.up.k⟩, t.dn, t.went + outN t n, t.came⟩, t.up.b.extract 0 (outN t n))
/-- How many come back. -/
def bckN (t : TuD) (s : ByteArray) : Nat := if t.dn.e = true ∨ t.dn.k = true then 0 else comes t.dn.r t.dn.b s
def bckTu (t : TuD) (s : ByteArray) (fin : Bool) : TuD × Int :=
  if okTu t = false then (zTu, 0)
  else (⟨t.up, ⟨t.dn.r, t.dn.b ++ s.extract 0 (bckN t s), t.dn.e || (fin && decide (bckN t s = s.size) && !t.dn.k), t.dn.k⟩, t.went, t.came⟩, (bckN t s : Int))
def trnTu (t : TuD) : TuD := if okTu t = false then zTu else ⟨⟨t.up.r, ⟨#[]⟩, t.up.e, true⟩, ⟨t.dn.r, ⟨#[]⟩, t.dn.e, true⟩, t.went, t.came⟩
def dryPp (p : PpD) : Bool := okPp p && (p.e || p.k) && p.b.toList.isEmpty
def ovrTu (t : TuD) : Bool := okTu t && dryPp t.up && dryPp t.dn
end Go.Proofs.YtllaeakeaabiaaaGreat
/- A text that is bent: some bytes, at most two more than before; of what was there the cursor alone has moved. -/
namespace Go.Proofs.YtllaeakeaabiaaaGreat
open Go.RowKit
set_option maxRecDepth 100000
set_option linter.unusedSimpArgs false
set_option linter.unusedVariables false

/-- A slice of n bytes in a block that the call made. -/
def BR (w : World) (base : Nat) (ad : Option Addr) (n cap : Nat) : Prop :=
  n ≤ cap ∧ cap ≤ maxLen ∧ (0 < n → ∃ blk, ad = some ⟨blk, 0, none⟩ ∧ base ≤ blk ∧ blk < w.heap.size ∧ ∀ j, j < n → (∃ u, ByteVal u ∧ w.cell? ⟨blk, j, none⟩ = some u) ∧ w.frozen? ⟨blk, j, none⟩ = false)

theorem BR.kept {w w' : World} {base : Nat} {ad : Option Addr} {n cap : Nat} (h : BR w base ad n cap) (hs : w.heap.size ≤ w'.heap.size) (hk : ∀ k, base ≤ k → k < w.heap.size → w'.heap[k]? = w.heap[k]?) : BR w' base ad n cap := by
  obtain ⟨h1, h2, h3⟩ := h
  refine ⟨h1, h2, fun hn => ?_⟩
  obtain ⟨blk, rfl, hb, hl, hc⟩ := h3 hn
  refine ⟨blk, rfl, hb, by omega, fun j hj => ?_⟩
  have e := hk blk hb hl
  obtain ⟨⟨u, hu, hcu⟩, hf⟩ := hc j hj
  exact ⟨⟨u, hu, (World.cell?_of_block (a := ⟨blk, j, none⟩) e).trans hcu⟩, (World.frozen?_of_block (a := ⟨blk, j, none⟩) e).trans hf⟩
theorem BR.moves {g : Nat} {w w' : World} {base : Nat} {ad : Option Addr} {n cap : Nat} (h : BR w base ad n cap) (hm : Moves g w w') (hg : g < base) : BR w' base ad n cap :=
  h.kept hm.size fun k hb hl => hm.block k hl (by omega)
theorem BR.cut {w : World} {base : Nat} {ad : Option Addr} {n cap : Nat} (h : BR w base ad n cap) (k : Nat) (hk : k ≤ n) : BR w base ad k cap := by
  obtain ⟨h1, h2, h3⟩ := h
  refine ⟨by omega, h2, fun hn => ?_⟩
  obtain ⟨blk, e, hb, hl, hc⟩ := h3 (by omega)
  exact ⟨blk, e, hb, hl, fun j hj => hc j (by omega)⟩
theorem BR.of_owns {w : World} {base n cap : Nat} {ad : Option Addr} {xs : List Value} (h : w.ownsRow base 5 1 (.slice ad n cap) n xs) (hx : ∀ u ∈ xs, ByteVal u) : BR w base ad n cap := by
  obtain ⟨hl, h2⟩ := h
  rcases h2 with ⟨h2, h3⟩ | ⟨g, cap', cur, e1, hb, hg, h3, h4, h5, h6⟩
  · simp only [Value.slice.injEq] at h2
    obtain ⟨rfl, rfl, rfl⟩ := h2
    exact ⟨Nat.le_refl _, Nat.zero_le _, fun h => absurd h (Nat.lt_irrefl _)⟩
  · simp only [Value.slice.injEq, true_and] at e1
    obtain ⟨rfl, rfl⟩ := e1
    refine ⟨h3, h4, fun hn => ⟨g, rfl, hb, (Array.getElem?_eq_some_iff.1 hg).1, fun j hj => ⟨?_, Joins.unfrozen_of_block hg j⟩⟩⟩
    have hj2 : j < cur.size := by omega
    refine ⟨cur[j], hx _ ?_, by rw [Joins.cell_of_block hg, Array.getElem?_eq_getElem hj2]⟩
    rw [← h6, List.mem_iff_getElem?]
    exact ⟨j, by rw [List.getElem?_take_of_lt (by omega)]; simp [hj2]⟩
/-- A window of such a slice reads as bytes. -/
theorem BR.window {w : World} {base : Nat} {n cap blk : Nat} (h : BR w base (some ⟨blk, 0, none⟩) n cap) (i m cap' : Nat) (him : i + m ≤ n) (hc : m ≤ cap') (hc' : cap' ≤ maxLen) (ad : Option Addr) (ha : 0 < m → ad = some ⟨blk, i, none⟩) :
    ∃ xs : List Value, (∀ u ∈ xs, ByteVal u) ∧ xs.length = m ∧ Reads w (.slice ad m cap') m 1 xs := by
  obtain ⟨h1, h2, h3⟩ := h
  have hall : ∀ m, i + m ≤ n → ∃ xs : List Value, (∀ u ∈ xs, ByteVal u) ∧ xs.length = m ∧ ∀ j u, xs[j]? = some u → w.cell? ⟨blk, i + j, none⟩ = some u := by
    intro m
    induction m with
    | zero => intro _; exact ⟨[], by simp, rfl, by simp⟩
    | succ m ih =>
      intro hm
      obtain ⟨xs, a1, a2, a3⟩ := ih (by omega)
      obtain ⟨blk', e, _, _, hcc⟩ := h3 (by omega)
      simp only [Option.some.injEq, Addr.mk.injEq, and_true] at e
      subst e
      obtain ⟨⟨u, hu, hcu⟩, _⟩ := hcc (i + m) (by omega)
      refine ⟨xs ++ [u], mem_append_byte a1 u hu, by simp [a2], fun j v hj => ?_⟩
      by_cases hjm : j < m
      · rw [List.getElem?_append_left (by omega)] at hj; exact a3 j v hj
      · have : j = m := by
          have := (List.getElem?_eq_some_iff.1 hj).1
          simp at this; omega
        subst this
        rw [← a2] at hj
        simp at hj
        subst hj; exact hcu
  obtain ⟨xs, a1, a2, a3⟩ := hall m him
  refine ⟨xs, a1, a2, by omega, ad, cap', rfl, hc, hc', fun hm => ?_⟩
  obtain ⟨blk', e, _, hl, _⟩ := h3 (by omega)
  simp only [Option.some.injEq, Addr.mk.injEq, and_true] at e
  subst e
  exact ⟨blk, i, ha hm, hl, a3⟩
theorem byte_one {u : Value} (h : ByteVal u) : u.oneCell' = true := by obtain ⟨z, rfl, _⟩ := h; rfl
theorem bytes_one {xs : List Value} (h : ∀ u ∈ xs, ByteVal u) : ∀ u ∈ xs, u.oneCell' = true := fun u hu => byte_one (h u hu)

theorem BR.string {W : World} {base n cap : Nat} {ad : Option Addr} (h : BR W base ad n cap) (hn : n = 0 → ad = none ∨ ∃ b o, ad = some ⟨b, o, none⟩) :
    ∃ s : ByteArray, s.size = n ∧ (convert 131 9 (.slice ad n cap)).run Tryz.prog W = .ok (.string s) W := by
  by_cases h0 : n = 0
  · subst h0
    rcases hn rfl with rfl | ⟨b, o, rfl⟩
    · exact ⟨⟨#[]⟩, rfl, by simpa using Lib.run_convert_nil_bytes (P := Tryz.prog) W 131 9 5 cap Tryz.underlying131 Tryz.underlying5 Tryz.underlying9⟩
    · exact ⟨⟨#[]⟩, rfl, by simpa using run_convert_bytes_back (P := Tryz.prog) W 131 9 5 ⟨b, o, none⟩ cap [] Tryz.underlying131 Tryz.underlying5 Tryz.underlying9 (fun j hj => by simp at hj)⟩
  · obtain ⟨blk, rfl, hb, hl, hc⟩ := h.2.2 (by omega)
    obtain ⟨xs, a1, a2, a3⟩ := h.window (blk := blk) 0 n cap (by omega) h.1 h.2.1 (some ⟨blk, 0, none⟩) (fun _ => rfl)
    obtain ⟨l, hl1, hl2⟩ := bytes_list xs a1
    refine ⟨⟨l.toArray⟩, by simp [ByteArray.size]; omega, ?_⟩
    have := run_convert_bytes_back (P := Tryz.prog) W 131 9 5 ⟨blk, 0, none⟩ cap l Tryz.underlying131 Tryz.underlying5 Tryz.underlying9 (fun j hj => by
      obtain ⟨_, ad', cap', e, _, _, hh⟩ := a3
      obtain ⟨b', o', e2, _, hh2⟩ := hh (by omega)
      simp only [Value.slice.injEq, true_and] at e
      obtain ⟨rfl, rfl⟩ := e
      simp only [Option.some.injEq, Addr.mk.injEq, and_true] at e2
      obtain ⟨rfl, rfl⟩ := e2
      have h6 : ((⟨blk, 0, none⟩ : Addr).add j) = ⟨blk, 0 + j, none⟩ := by unfold Addr.add; split <;> simp_all
      rw [h6]
      exact hh2 j _ (hl2 j hj))
    rw [show l.length = n by omega] at this
    exact this

/-- The bytes of a text, laid anew. -/
theorem br_new (w : World) (s : ByteArray) (hs : s.size ≤ 1000000) (hcap : grownCap w s.size 0 5 ≤ maxLen) (hle : s.size ≤ grownCap w s.size 0 5) :
    BR (Lib.bytesWorld w 5 s) w.heap.size (some ⟨w.heap.size, 0, none⟩) s.size (grownCap w s.size 0 5) := by
  refine ⟨hle, hcap, fun hn => ⟨w.heap.size, rfl, Nat.le_refl _, by rw [Lib.bytesWorld_size]; omega, fun j hj => ⟨⟨_, ?_, Lib.bytesWorld_cell w 5 s j hj⟩, ?_⟩⟩⟩
  · have := (s.data.toList.getD j 0).toNat_lt
    exact ⟨_, rfl, by omega, by omega⟩
  · have hsz : j < (Lib.bytesCells w 5 s).size := by
      have h2 : s.size = s.data.size := rfl
      simp [Lib.bytesCells]; omega
    unfold World.frozen?
    simp only [Lib.bytesWorld_at_new]
    simp
    omega
end Go.Proofs.YtllaeakeaabiaaaGreat
/- Plain mathematics of chapter 3: the bytes that a number takes. -/
namespace Go.Proofs.YtllaeakeaabiaaaGreat
set_option linter.unusedVariables false

/-- The bytes of a rest, seven bits each, at most k + 1 of them. -/
def restF : Nat → Int → List Int
  | 0, r => [r]
  | k + 1, r => if r < 128 then [r] else (r % 128 + 128) :: restF k (r / 128)
/-- The bytes of n, the high bits of the first left 0; f: the lowest bits all set. -/
def bytesOf (n f : Int) : List Int := if n < f then [n] else f :: restF 4 (n - f)

theorem restF_ne (k : Nat) (r : Int) : 0 < (restF k r).length := by
  cases k with
  | zero => simp [restF]
  | succ k => simp only [restF]; split <;> simp
theorem restF_len (k : Nat) : ∀ r : Int, (restF k r).length ≤ k + 1 := by
  induction k with
  | zero => intro r; simp [restF]
  | succ k ih => intro r; simp only [restF]; split <;> simp; exact ih _
theorem restF_small {k : Nat} {r : Int} (h : r < 128) : restF k r = [r] := by
  cases k with
  | zero => rfl
  | succ k => simp [restF, h]
theorem restF_big {k : Nat} {r : Int} (h : 128 ≤ r) : restF (k + 1) r = (r % 128 + 128) :: restF k (r / 128) := by
  simp only [restF]; rw [if_neg (by omega)]
theorem restF_range (k : Nat) : ∀ r : Int, 0 ≤ r → r < 128 ^ (k + 1) → ∀ x ∈ restF k r, 0 ≤ x ∧ x ≤ 255 := by
  induction k with
  | zero => intro r h0 h1 x hx; simp [restF] at hx h1; omega
  | succ k ih =>
    intro r h0 h1 x hx
    by_cases h : r < 128
    · rw [restF_small h] at hx; simp at hx; omega
    · rw [restF_big (by omega)] at hx
      rcases List.mem_cons.1 hx with rfl | hx
      · omega
      · refine ih (r / 128) (by omega) ?_ x hx
        rw [Int.pow_succ] at h1
        omega
theorem bytesOf_len (n f : Int) : 0 < (bytesOf n f).length ∧ (bytesOf n f).length ≤ 6 := by
  unfold bytesOf
  split
  · simp
  · have := restF_len 4 (n - f); simp; omega
/-- What Width answers. -/
def wdV (n b : Int) : Int := if okN n b = true then ((bytesOf n (pw b - 1)).length : Int) else 0
theorem wdV_no {n b : Int} (h : okN n b = false) : wdV n b = 0 := by simp [wdV, h]
theorem wdV_yes {n b : Int} (h : okN n b = true) : wdV n b = ((bytesOf n (pw b - 1)).length : Int) := by simp [wdV, h]
theorem wdV_range (n b : Int) : 0 ≤ wdV n b ∧ wdV n b ≤ 6 := by
  have := bytesOf_len n (pw b - 1)
  unfold wdV; split <;> omega
theorem bytesOf_ne (n f : Int) : bytesOf n f ≠ [] := by
  have := (bytesOf_len n f).1
  intro e; rw [e] at this; simp at this
end Go.Proofs.YtllaeakeaabiaaaGreat
/- Chapter 3's High, of the program and of the model: the first byte without its lowest bits. -/
namespace Go.Proofs.YtllaeakeaabiaaaGreat
open Go.RowKit
set_option maxRecDepth 100000
set_option linter.unusedSimpArgs false
set_option linter.unusedVariables false

theorem andNot_all : ∀ k : Fin 256, (bits .andNot .i64 (k.val : Int) 1 = (k.val : Int) / 2 * 2 ∧ bits .andNot .i64 (k.val : Int) 3 = (k.val : Int) / 4 * 4 ∧ bits .andNot .i64 (k.val : Int) 7 = (k.val : Int) / 8 * 8
    ∧ bits .andNot .i64 (k.val : Int) 15 = (k.val : Int) / 16 * 16) ∧ (bits .andNot .i64 (k.val : Int) 31 = (k.val : Int) / 32 * 32 ∧ bits .andNot .i64 (k.val : Int) 63 = (k.val : Int) / 64 * 64
    ∧ bits .andNot .i64 (k.val : Int) 127 = (k.val : Int) / 128 * 128 ∧ bits .andNot .i64 (k.val : Int) 255 = (k.val : Int) / 256 * 256) := by decide +kernel

theorem andNot_pw {x b : Int} (h0 : 0 ≤ x) (h1 : x ≤ 255) (hb1 : 1 ≤ b) (hb8 : b ≤ 8) : bits .andNot .i64 x (pw b - 1) = x / pw b * pw b := by
  obtain ⟨⟨a1, a2, a3, a4⟩, a5, a6, a7, a8⟩ := andNot_all ⟨x.toNat, by omega⟩
  have e : ((x.toNat : Nat) : Int) = x := by omega
  simp only [e] at a1 a2 a3 a4 a5 a6 a7 a8
  rcases bits8 hb1 hb8 with rfl | rfl | rfl | rfl | rfl | rfl | rfl | rfl <;> simpa [pw] using (by assumption)

/-- What High answers. -/
def hiV (s : ByteArray) (b : Int) : Int := if h : 0 < s.size then if 1 ≤ b ∧ b ≤ 8 then (s[0].toNat : Int) / pw b * pw b else -1 else -1
theorem hiV_yes {s : ByteArray} {b : Int} (h : 0 < s.size) (h1 : 1 ≤ b) (h8 : b ≤ 8) : hiV s b = (s[0].toNat : Int) / pw b * pw b := by simp [hiV, h, h1, h8]
theorem hiV_no {s : ByteArray} {b : Int} (h : s.size = 0 ∨ inB b 1 8 = false) : hiV s b = -1 := by
  rcases h with h | h
  · simp [hiV, h]
  · have := inB_false h
    unfold hiV
    simp [this]

theorem implHigh (s : ByteArray) (b : Int) (w : World) (hs : s.size ≤ maxLen) : Calls Tryz.prog 231 #[.string s, .int .i64 b] w fun e w' => e = .returned (.int .i64 (hiV s b)) ∧ Below w.heap.size w w' := by
  unfold maxLen at hs
  by_cases h0 : s.size = 0
  · rw [hiV_no (.inl h0)]
    obtain rfl := size0 h0
    go_enter Tryz.func231, Tryz.ntmps231
    go_wp2_with fail
    go_ret
    exact ⟨rfl, Below.refl _ _⟩
  · have hp : 0 < s.size := by omega
    have hne := list_ne hp
    have hne' := list_isEmpty hp
    cases hb : inB b 1 8
    · rw [hiV_no (.inr hb)]
      go_enter Tryz.func231, Tryz.ntmps231
      go_wp2_with (go_at_call 248; refine (implPrefixBits _ _).mono ?_; rw [hb]; rintro e w' ⟨rfl, rfl⟩)
      go_ret
      exact ⟨rfl, Below.refl _ _⟩
    · obtain ⟨h1, h8⟩ := inB_true hb
      rw [hiV_yes hp h1 h8]
      have hx : (s[0].toNat : Int) ≤ 255 := by have := s[0].toNat_lt; omega
      have hx0 : 0 ≤ (s[0].toNat : Int) := by omega
      have HV : Hid (bits .andNot .i64 (s[0].toNat : Int) (pw b - 1) = (s[0].toNat : Int) / pw b * pw b) := andNot_pw hx0 hx h1 h8
      go_enter Tryz.func231, Tryz.ntmps231
      go_wp2_with (go_at_call 248; refine (implPrefixBits _ _).mono ?_; rw [hb]; rintro e w' ⟨rfl, rfl⟩)
      go_quiet ((go_at_call 171; exact Calls.quiet_of_same (implLowest _ _ h1 h8)))
      go_wp2_with fail
      go_ret
      exact ⟨by rw [HV.out]; rfl, bo_drewN _ (Below.refl _ _)⟩
end Go.Proofs.YtllaeakeaabiaaaGreat
/- Rows of Fields: copied, held against each other, marked, read again, counted. -/
namespace Go.Proofs.YtllaeakeaabiaaaGreat
open Go.RowKit
set_option maxRecDepth 100000
set_option linter.unusedSimpArgs false
set_option linter.unusedVariables false

structure Fd where
  n : ByteArray
  v : ByteArray
def Fd.cs (f : Fd) : List Value := [.string f.n, .string f.v]
/-- Small enough to be a Go text. -/
def Fd.fine (f : Fd) : Prop := f.n.size ≤ 9223372036854775807 ∧ f.v.size ≤ 9223372036854775807
def fv (L : List Fd) : List Value := L.flatMap Fd.cs
theorem fcs_len (s : Fd) : s.cs.length = 2 := rfl
theorem fv_len (L : List Fd) : (fv L).length = L.length * 2 := flat_length Fd.cs 2 fcs_len L
theorem fv_get (L : List Fd) (k : Nat) (h : k < L.length) : (fv L)[k * 2]? = some (.string L[k].n) ∧ (fv L)[k * 2 + 1]? = some (.string L[k].v) :=
  ⟨flat_get Fd.cs 2 fcs_len L k h 0 (by decide), flat_get Fd.cs 2 fcs_len L k h 1 (by decide)⟩
theorem fv_one (L : List Fd) : ∀ u ∈ fv L, u.oneCell' = true := by
  intro u hu
  obtain ⟨f, _, hf⟩ := List.mem_flatMap.1 hu
  simp only [Fd.cs, List.mem_cons, List.not_mem_nil, or_false] at hf
  rcases hf with rfl | rfl <;> rfl
theorem fv_app (A B : List Fd) : fv (A ++ B) = fv A ++ fv B := by simp [fv]

theorem toField1 (s : Fd) (w : World) : Calls Tryz.prog 115 #[.agg #[.string s.n, .string s.v]] w fun x w' => x = .returned (.agg #[.string s.n, .string s.v]) ∧ Below w.heap.size w w' := by
  go_enter Tryz.func115, Tryz.ntmps115
  go_wp2
  go_returns
  exact ⟨rfl, (by repeat' (first | (with_reducible exact Below.refl _ _) | (with_reducible refine Below.drew ?_) | (with_reducible refine bo_drewN _ ?_) | (with_reducible refine bo_alloc ?_ _) | (refine bchain ?_ (by with_reducible assumption)) | (with_reducible refine Below.setCell ?_ ?_ _) | go_size))⟩

theorem eqField1 (s : Fd) (w : World) : Calls Tryz.prog 139 #[.agg #[.string s.n, .string s.v], .agg #[.string s.n, .string s.v]] w fun x w' => x = .returned (.bool true) ∧ Below w.heap.size w w' := by
  go_enter Tryz.func139, Tryz.ntmps139
  go_wp2
  go_ret
  exact ⟨rfl, (by repeat' (first | (with_reducible exact Below.refl _ _) | (with_reducible refine Below.drew ?_) | (with_reducible refine bo_drewN _ ?_) | (with_reducible refine bo_alloc ?_ _) | (refine bchain ?_ (by with_reducible assumption)) | (with_reducible refine Below.setCell ?_ ?_ _) | go_size))⟩

/-- How many bytes both have. -/
def szF (f : Fd) : Int := f.n.size + f.v.size
theorem szField1 (f : Fd) (left : Int) (w : World) (hf : f.fine) (h0 : 0 ≤ left) (h1 : left ≤ 1048576) :
    Calls Tryz.prog 93 #[.agg #[.string f.n, .string f.v], .int .i64 left] w fun x w' => x = .returned (.int .i64 (if left - szF f < 0 then -1 else left - szF f)) ∧ Below w.heap.size w w' := by
  obtain ⟨hn, hv⟩ := hf
  unfold szF
  by_cases hA : left - f.n.size < 0
  · have e : left - ((f.n.size : Int) + f.v.size) < 0 := by omega
    rw [if_pos e]
    go_enter Tryz.func93, Tryz.ntmps93
    go_wp2
    go_ret
    exact ⟨rfl, (by repeat' (first | (with_reducible exact Below.refl _ _) | (with_reducible refine Below.drew ?_) | (with_reducible refine bo_drewN _ ?_) | (with_reducible refine bo_alloc ?_ _) | (refine bchain ?_ (by with_reducible assumption)) | (with_reducible refine Below.setCell ?_ ?_ _) | go_size))⟩
  · by_cases hB : left - f.n.size - f.v.size < 0
    · have e : left - ((f.n.size : Int) + f.v.size) < 0 := by omega
      rw [if_pos e]
      go_enter Tryz.func93, Tryz.ntmps93
      go_wp2
      go_ret
      exact ⟨rfl, (by repeat' (first | (with_reducible exact Below.refl _ _) | (with_reducible refine Below.drew ?_) | (with_reducible refine bo_drewN _ ?_) | (with_reducible refine bo_alloc ?_ _) | (refine bchain ?_ (by with_reducible assumption)) | (with_reducible refine Below.setCell ?_ ?_ _) | go_size))⟩
    · have e : ¬ left - ((f.n.size : Int) + f.v.size) < 0 := by omega
      rw [if_neg e, show left - ((f.n.size : Int) + f.v.size) = left - f.n.size - f.v.size by omega]
      clear e
      go_enter Tryz.func93, Tryz.ntmps93
      go_wp2
      go_ret
      exact ⟨rfl, (by repeat' (first | (with_reducible exact Below.refl _ _) | (with_reducible refine Below.drew ?_) | (with_reducible refine bo_drewN _ ?_) | (with_reducible refine bo_alloc ?_ _) | (refine bchain ?_ (by with_reducible assumption)) | (with_reducible refine Below.setCell ?_ ?_ _) | go_size))⟩

/-- How many bytes the fields of a row have. -/
def szL : List Fd → Int
  | [] => 0
  | f :: L => szF f + szL L
theorem szF_pos (f : Fd) : 0 ≤ szF f := by unfold szF; omega
theorem szL_pos (L : List Fd) : 0 ≤ szL L := by
  induction L with
  | nil => simp [szL]
  | cons f L ih => have := szF_pos f; simp only [szL]; omega
theorem szL_app (A B : List Fd) : szL (A ++ B) = szL A + szL B := by
  induction A with
  | nil => simp [szL]
  | cons f A ih => simp only [List.cons_append, szL, ih]; omega
theorem szL_split (L : List Fd) (k : Nat) (h : k < L.length) : szL L = szL (L.take k) + szF L[k] + szL (L.drop (k + 1)) := by
  conv => lhs; rw [← List.take_append_drop k L, List.drop_eq_getElem_cons h, szL_app]
  simp only [szL]; omega
theorem szL_succ (L : List Fd) (k : Nat) (h : k < L.length) : szL (L.take (k + 1)) = szL (L.take k) + szF L[k] := by
  rw [List.take_succ_eq_append_getElem h, szL_app]; simp [szL]

set_option maxHeartbeats 1000000 in
theorem szFields (L : List Fd) (v : Value) (left : Int) (w : World) (hr0 : Reads w v L.length 2 (fv L)) (hf : ∀ f ∈ L, f.fine) (h0 : 0 ≤ left) (h1 : left ≤ 1048576) :
    Calls Tryz.prog 46 #[v, .int .i64 left] w fun x w' => x = .returned (.int .i64 (if left - L.length - szL L < 0 then -1 else left - L.length - szL L)) ∧ Below w.heap.size w w' := by
  obtain ⟨hl, ad, cap, rfl, h2, h3, h4⟩ := hr0
  unfold maxLen at h3
  have hp := szL_pos L
  have H3 := hide h4
  have HF := hide hf
  clear h4 hf
  obtain ⟨R, hR⟩ : ∃ R : Int, R = if left - L.length - szL L < 0 then -1 else left - L.length - szL L := ⟨_, rfl⟩
  rw [← hR]
  have HR := hide hR
  clear hR
  by_cases h : left - L.length < 0
  · have e := HR.out
    rw [if_pos (by omega)] at e
    subst e
    clear HR
    go_enter Tryz.func46, Tryz.ntmps46
    go_wp2_with fail
    go_ret
    exact ⟨rfl, (by repeat' (first | (with_reducible exact Below.refl _ _) | (with_reducible refine Below.drew ?_) | (with_reducible refine bo_drewN _ ?_) | (with_reducible refine bo_alloc ?_ _) | (refine bchain ?_ (by with_reducible assumption)) | (with_reducible refine Below.setCell ?_ ?_ _) | go_size))⟩
  · go_enter Tryz.func46, Tryz.ntmps46
    go_wp2_with fail
    go_loopw [1, 5] (fun lv i wr => ∃ (k : Nat), i = .int .i64 k ∧ k ≤ L.length ∧ lv = .int .i64 (left - L.length - szL (L.take k)) ∧ 0 ≤ left - L.length - szL (L.take k) ∧ Below w.heap.size w wr) (fun _ i _ => L.length - (intOf i).toNat)
    case atStart => exact ⟨0, rfl, Nat.zero_le _, by simp [szL], by simp [szL]; omega, Below.refl _ _⟩
    case round =>
      obtain ⟨k, rfl, hk, rfl, hpos, hb⟩ := hrel
      by_cases hlt : k < L.length
      · obtain ⟨b, o, rfl, hbw, hc⟩ := H3.out (by omega)
        obtain ⟨s0, s1⟩ := fv_get L k hlt
        have hsp := szL_split L k hlt
        have hsu := szL_succ L k hlt
        have hp2 := szL_pos (L.drop (k + 1))
        have hp3 := szL_pos (L.take k)
        have hfk := HF.out _ (List.getElem_mem hlt)
        obtain ⟨f, hff⟩ : ∃ f, f = L[k] := ⟨_, rfl⟩
        rw [← hff] at s0 s1 hsp hsu hfk
        have c0 : wr.cell? ⟨b, o + k * 2, none⟩ = some (.string f.n) := by rw [hb.cell (p := ⟨b, o + k * 2, none⟩) hbw]; exact hc _ _ s0
        have c1 : wr.cell? ⟨b, o + k * 2 + 1, none⟩ = some (.string f.v) := by rw [hb.cell (p := ⟨b, o + k * 2 + 1, none⟩) hbw]; exact hc _ _ s1
        clear hc s0 s1 hff
        have HS := hide hsp; have HU := hide hsu
        have hpf := szF_pos f
        generalize hA : szL (L.take k) = A at *
        clear hsp hsu hA
        by_cases hneg : left - L.length - A - szF f < 0
        · have e := HR.out
          rw [if_pos (by have := HS.out; omega)] at e
          subst e
          clear HR
          go_wp2_with fail
          refine (szField1 f _ _ hfk (by omega) (by omega)).mono ?_; rw [if_pos (by omega)]; rintro x w1 ⟨rfl, hb1⟩
          go_wp2_with fail
          go_ret
          exact ⟨rfl, bchain hb hb1⟩
        · go_wp2_with fail
          refine (szField1 f _ _ hfk (by omega) (by omega)).mono ?_; rw [if_neg (by omega)]; rintro x w1 ⟨rfl, hb1⟩
          go_wp2_with fail
          exact ⟨⟨k + 1, by go_num, by omega, int_eq (by have := HU.out; omega), by have := HU.out; omega, bchain hb hb1⟩, by simp [intOf]; omega⟩
      · obtain rfl : k = L.length := by omega
        rw [List.take_length] at hpos ⊢
        have e := HR.out
        rw [if_neg (by omega)] at e
        subst e
        clear HR
        go_wp2_with fail
        go_ret
        exact ⟨rfl, hb⟩

set_option maxHeartbeats 1000000 in
theorem toFields (L : List Fd) (v : Value) (w : World) (hr0 : Reads w v L.length 2 (fv L)) (hL : L.length ≤ 1048576) :
    Calls Tryz.prog 67 #[v] w fun x w' => ∃ v', x = .returned v' ∧ w'.ownsRow w.heap.size 146 2 v' L.length (fv L) ∧ Below w.heap.size w w' := by
  obtain ⟨M, hM, hmk⟩ := make_row 38 146 (.agg #[.string ⟨#[]⟩, .string ⟨#[]⟩]) 2 32 Tryz.underlying38 (by kernel_rfl) rfl (by decide) (by decide) L.length hL
  obtain ⟨hl, ad, cap, rfl, h1, h2, h3⟩ := hr0
  have ho := owns_made w M 146 2 L.length hM hL
  have H3 := hide h3
  clear h3
  unfold maxLen at h2
  go_enter Tryz.func67, Tryz.ntmps67
  go_wp2_with fail
  go_loopw [4] (fun i wr => ∃ (k : Nat) (xs : List Value), i = .int .i64 k ∧ k ≤ L.length ∧ wr.ownsRow w.heap.size 146 2 (.slice (some ⟨w.heap.size, 0, none⟩) L.length L.length) L.length xs ∧ (∀ j, j < k * 2 → xs[j]? = (fv L)[j]?) ∧ Below w.heap.size w wr) (fun i _ => L.length - (intOf i).toNat)
  case atStart => exact ⟨0, _, rfl, Nat.zero_le _, ho, fun j hj => absurd hj (by omega), (Below.refl _ _).alloc (Nat.le_refl _) _⟩
  case round =>
    obtain ⟨k, xs, rfl, hk, hown, hx, hb⟩ := hrel
    by_cases hlt : k < L.length
    · obtain ⟨b, o, rfl, hbw, hc⟩ := H3.out (by omega)
      obtain ⟨s0, s1⟩ := fv_get L k hlt
      have c0 : wr.cell? ⟨b, o + k * 2, none⟩ = some (.string L[k].n) := by rw [hb.cell (p := ⟨b, o + k * 2, none⟩) hbw]; exact hc _ _ s0
      have c1 : wr.cell? ⟨b, o + k * 2 + 1, none⟩ = some (.string L[k].v) := by rw [hb.cell (p := ⟨b, o + k * 2 + 1, none⟩) hbw]; exact hc _ _ s1
      have HX := hide hx
      have S0 := hide s0; have S1 := hide s1; clear s0 s1
      have HOwn := hide hown
      clear hx hown hc
      go_wp2_with fail
      refine (toField1 L[k] _).mono ?_; rintro x w1 ⟨rfl, hb1⟩
      have hown1 := owns_new HOwn.out hb1
      have hbb := bchain hb hb1
      obtain ⟨g, cap', e1, e2, e3, e4, _, _, e5, e6⟩ := owns_open hown1 (by omega)
      simp only [Value.slice.injEq, Option.some.injEq, Addr.mk.injEq] at e1
      obtain ⟨⟨rfl, _, _⟩, _, rfl⟩ := e1
      have hl1 := hown1.1
      obtain ⟨u0, hu0⟩ : ∃ u, w1.cell? ⟨w.heap.size, k * 2, none⟩ = some u := ⟨_, e5 _ _ (List.getElem?_eq_getElem (by omega))⟩
      obtain ⟨u1, hu1⟩ : ∃ u, w1.cell? ⟨w.heap.size, k * 2 + 1, none⟩ = some u := ⟨_, e5 _ _ (List.getElem?_eq_getElem (by omega))⟩
      have HO := hide (owns_set (owns_set hown1 rfl (k * 2) (.string L[k].n)) rfl (k * 2 + 1) (.string L[k].v))
      have HP := hide (pre_set ((k + 1) * 2) (pre_set (k * 2 + 1) HX.out S0.out (by omega) rfl) S1.out (by simp; omega) (by omega))
      clear e5 e2 hown1
      go_wp2_with fail
      exact ⟨⟨k + 1, _, by go_num, by omega, HO.out, HP.out, (hbb.setCell (by simp) _).setCell (by simp) _⟩, by simp [intOf]; omega⟩
    · obtain rfl : k = L.length := by omega
      have hxs : xs = fv L := pre_end hown.1 (fv_len L) hx
      subst hxs
      go_wp2_with fail
      go_ret
      exact ⟨_, rfl, hown, hb⟩

set_option maxHeartbeats 1000000 in
theorem eqFields (L : List Fd) (v v' : Value) (w : World) (hr0 : Reads w v L.length 2 (fv L)) (hr1 : Reads w v' L.length 2 (fv L)) :
    Calls Tryz.prog 77 #[v, v'] w fun x w' => x = .returned (.bool true) ∧ Below w.heap.size w w' := by
  obtain ⟨hl, ad, cap, rfl, h1, h2, h3⟩ := hr0
  obtain ⟨hl', ad', cap', rfl, h1', h2', h3'⟩ := hr1
  have H3 := hide h3
  have H3' := hide h3'
  clear h3 h3'
  unfold maxLen at h2 h2'
  go_enter Tryz.func77, Tryz.ntmps77
  go_wp2_with fail
  go_loopw [5] (fun i wr => ∃ (k : Nat), i = .int .i64 k ∧ k ≤ L.length ∧ Below w.heap.size w wr) (fun i _ => L.length - (intOf i).toNat)
  case atStart => exact ⟨0, rfl, Nat.zero_le _, Below.refl _ _⟩
  case round =>
    obtain ⟨k, rfl, hk, hb⟩ := hrel
    by_cases hlt : k < L.length
    · obtain ⟨b, o, rfl, hbw, hc⟩ := H3.out (by omega)
      obtain ⟨b', o', rfl, hbw', hc'⟩ := H3'.out (by omega)
      obtain ⟨s0, s1⟩ := fv_get L k hlt
      have c0 : wr.cell? ⟨b, o + k * 2, none⟩ = some (.string L[k].n) := by rw [hb.cell (p := ⟨b, o + k * 2, none⟩) hbw]; exact hc _ _ s0
      have c1 : wr.cell? ⟨b, o + k * 2 + 1, none⟩ = some (.string L[k].v) := by rw [hb.cell (p := ⟨b, o + k * 2 + 1, none⟩) hbw]; exact hc _ _ s1
      have d0 : wr.cell? ⟨b', o' + k * 2, none⟩ = some (.string L[k].n) := by rw [hb.cell (p := ⟨b', o' + k * 2, none⟩) hbw']; exact hc' _ _ s0
      have d1 : wr.cell? ⟨b', o' + k * 2 + 1, none⟩ = some (.string L[k].v) := by rw [hb.cell (p := ⟨b', o' + k * 2 + 1, none⟩) hbw']; exact hc' _ _ s1
      have hsb := hb.size
      have hb1 : b < wr.heap.size := by omega
      have hb2 : b' < wr.heap.size := by omega
      clear hc hc' s0 s1
      go_wp2_with fail
      have q0 : ∀ y : Later wr, y.w.cell? ⟨b, o + k * 2, none⟩ = some (.string L[k].n) := fun y => (y.b.cell (p := ⟨b, o + k * 2, none⟩) hb1).trans c0
      have q1 : ∀ y : Later wr, y.w.cell? ⟨b, o + k * 2 + 1, none⟩ = some (.string L[k].v) := fun y => (y.b.cell (p := ⟨b, o + k * 2 + 1, none⟩) hb1).trans c1
      have r0 : ∀ y : Later wr, y.w.cell? ⟨b', o' + k * 2, none⟩ = some (.string L[k].n) := fun y => (y.b.cell (p := ⟨b', o' + k * 2, none⟩) hb2).trans d0
      have r1 : ∀ y : Later wr, y.w.cell? ⟨b', o' + k * 2 + 1, none⟩ = some (.string L[k].v) := fun y => (y.b.cell (p := ⟨b', o' + k * 2 + 1, none⟩) hb2).trans d1
      clear c0 c1 d0 d1
      have hne : Nonempty (Later wr) := ⟨⟨wr, Below.refl _ _⟩⟩; refine region_later (by kernel_rfl) (by kernel_rfl) ?_
      repeat (go_big_quiet_step (fail))
      go_big_quiet_want; go_big_quiet_op; refine ⟨.bool true, fun y => later_calls (x := y) (eqField1 L[k] y.w), ?_⟩; go_big_quiet_on
      repeat (go_big_quiet_step (fail))
      refine wpQuiet_nil ?_; intro _ hw'; obtain ⟨y, hw''⟩ := hw'; subst hw''; have hby := y.b
      go_wp2_with fail
      go_roundw
      case rel => exact ⟨k + 1, by go_num, by omega, bchain hb hby⟩
      case measure => simp [intOf]; omega
    · go_wp2_with fail
      go_ret
      exact ⟨rfl, hb⟩

/-- The marks of a row of n texts, from k on. -/
def mkT (k n : Nat) : List Value := (List.range n).map fun j => .string (mtx (k + j))
theorem mkT_len (k n : Nat) : (mkT k n).length = n := by simp [mkT]
theorem mkT_get (k n j : Nat) (h : j < n) : (mkT k n)[j]? = some (.string (mtx (k + j))) := by simp [mkT, h]

set_option maxHeartbeats 1000000 in
theorem heldFields (n k : Nat) (v : Value) (w : World) (hr0 : Reads w v n 2 (mkT k (n * 2))) (hk1 : k + n * 2 ≤ 1000000000) :
    Calls Tryz.prog 82 #[v, .int .i64 k] w fun x w' => x = .returned (.int .i64 ((k + n * 2 : Nat) : Int)) ∧ Below w.heap.size w w' := by
  obtain ⟨hl, ad, cap, rfl, h1, h2, h3⟩ := hr0
  have H3 := hide h3
  clear h3
  unfold maxLen at h2
  go_enter Tryz.func82, Tryz.ntmps82
  go_wp2_with fail
  go_loopw [1, 5] (fun kk i wr => ∃ (j : Nat), i = .int .i64 j ∧ kk = .int .i64 ((k + j * 2 : Nat) : Int) ∧ j ≤ n ∧ Below w.heap.size w wr) (fun _ i _ => n - (intOf i).toNat)
  case atStart => exact ⟨0, rfl, by simp, Nat.zero_le _, Below.refl _ _⟩
  case round =>
    obtain ⟨j, rfl, rfl, hj, hb⟩ := hrel
    by_cases hlt : j < n
    · obtain ⟨b, o, rfl, hbw, hc⟩ := H3.out (by omega)
      obtain ⟨K, hK⟩ : ∃ K : Nat, K = k + j * 2 := ⟨_, rfl⟩
      have hK1 : k + (j * 2 + 1) = K + 1 := by omega
      have c0 : wr.cell? ⟨b, o + j * 2, none⟩ = some (.string (mtx K)) := by rw [hb.cell (p := ⟨b, o + j * 2, none⟩) hbw, hK]; exact hc _ _ (mkT_get k (n * 2) (j * 2) (by omega))
      have c1 : wr.cell? ⟨b, o + j * 2 + 1, none⟩ = some (.string (mtx (K + 1))) := by rw [hb.cell (p := ⟨b, o + j * 2 + 1, none⟩) hbw, ← hK1]; exact hc _ _ (mkT_get k (n * 2) (j * 2 + 1) (by omega))
      have hsb := hb.size
      have hb1 : b < wr.heap.size := by omega
      clear hc hK1
      have hkb : K + 1 ≤ 1000000000 := by omega
      rw [← hK]
      have HK := hide hK
      clear hK
      go_wp2_with fail
      have q0 : ∀ y : Later wr, y.w.cell? ⟨b, o + j * 2, none⟩ = some (.string (mtx K)) := fun y => (y.b.cell (p := ⟨b, o + j * 2, none⟩) hb1).trans c0
      have hne : Nonempty (Later wr) := ⟨⟨wr, Below.refl _ _⟩⟩; refine region_later (by kernel_rfl) (by kernel_rfl) ?_
      repeat (go_big_quiet_step (fail))
      go_big_quiet_want; go_big_quiet_op; refine ⟨.string (mtx K), fun y => later_calls (x := y) ((fun u => markTx K u (by omega)) y.w), ?_⟩; go_big_quiet_on
      repeat (go_big_quiet_step (fail))
      refine wpQuiet_nil ?_; intro _ hw'; obtain ⟨y, hw''⟩ := hw'; subst hw''; have hby := y.b
      clear q0 hne
      have c1' := (hby.cell (p := ⟨b, o + j * 2 + 1, none⟩) hb1).trans c1
      have hb1' : b < y.w.heap.size := Nat.lt_of_lt_of_le hb1 hby.size
      obtain ⟨wy, hwy⟩ : ∃ wy, wy = y.w := ⟨_, rfl⟩
      rw [← hwy] at hby c1' hb1' ⊢
      clear c0 c1 hwy y
      have hbb := bchain hb hby
      go_wp2_with fail
      have q1 : ∀ y : Later wy, y.w.cell? ⟨b, o + j * 2 + 1, none⟩ = some (.string (mtx (K + 1))) := fun y => (y.b.cell (p := ⟨b, o + j * 2 + 1, none⟩) hb1').trans c1'
      have hne : Nonempty (Later wy) := ⟨⟨wy, Below.refl _ _⟩⟩; refine region_later (by kernel_rfl) (by kernel_rfl) ?_
      repeat (go_big_quiet_step (fail))
      go_big_quiet_want; go_big_quiet_op; refine ⟨.string (mtx (K + 1)), fun y => later_calls (x := y) ((fun u => markTx (K + 1) u (by omega)) y.w), ?_⟩; go_big_quiet_on
      repeat (go_big_quiet_step (fail))
      refine wpQuiet_nil ?_; intro _ hw'; obtain ⟨y2, hw''⟩ := hw'; subst hw''; have hby2 := y2.b
      go_wp2_with fail
      go_roundw
      case rel => exact ⟨j + 1, by go_num, int_eq (by have := HK.out; omega), by omega, bchain hbb hby2⟩
      case measure => simp [intOf]; omega
    · obtain rfl : j = n := by omega
      go_wp2_with fail
      go_ret
      exact ⟨rfl, hb⟩

set_option maxHeartbeats 1000000 in
theorem markFields (n k : Nat) (v : Value) (xs : List Value) (lo : Nat) (w : World) (ho : w.ownsRow lo 146 2 v n xs) (hk1 : k + n * 2 ≤ 1000000000) :
    Calls Tryz.prog 80 #[v, .int .i64 k] w fun x w' => x = .returned (.int .i64 ((k + n * 2 : Nat) : Int)) ∧ w'.ownsRow lo 146 2 v n (mkT k (n * 2)) ∧ w.grownBy w' v.ownBlock := by
  obtain ⟨ad, cap, rfl, h1, h2⟩ := owns_form ho
  unfold maxLen at h2
  have HO := hide ho
  clear ho
  go_enter Tryz.func80, Tryz.ntmps80
  go_wp2_with fail
  go_loopw [1, 5] (fun kk i wr => ∃ (j : Nat) (ys : List Value), i = .int .i64 j ∧ kk = .int .i64 ((k + j * 2 : Nat) : Int) ∧ j ≤ n ∧ wr.ownsRow lo 146 2 (.slice ad n cap) n ys ∧ (∀ t, t < j * 2 → ys[t]? = (mkT k (n * 2))[t]?) ∧ w.grownBy wr (Value.slice ad n cap).ownBlock) (fun _ i _ => n - (intOf i).toNat)
  case atStart => exact ⟨0, _, rfl, by simp, Nat.zero_le _, HO.out, fun t ht => absurd ht (by omega), gb_refl _ _⟩
  case round =>
    obtain ⟨j, ys, rfl, rfl, hj, hown, hy, ht⟩ := hrel
    by_cases hlt : j < n
    · obtain ⟨K, hK⟩ : ∃ K : Nat, K = k + j * 2 := ⟨_, rfl⟩
      have hkb : K + 1 ≤ 1000000000 := by omega
      rw [← hK]
      have HK := hide hK
      have HT := hide ht
      have HY := hide hy
      have HOwn := hide hown
      clear hy hown hK ht
      go_wp2_with fail
      refine (markTx K _ (by omega)).mono ?_; rintro x w1 ⟨rfl, hb1⟩
      have hown1 := owns_new HOwn.out hb1
      obtain ⟨g, cap', e1, e2, e3, e4, _, _, e5, e6⟩ := owns_open hown1 (by omega)
      simp only [Value.slice.injEq] at e1
      obtain ⟨rfl, _, rfl⟩ := e1
      have hl1 := hown1.1
      obtain ⟨u0, hu0⟩ : ∃ u, w1.cell? ⟨g, j * 2, none⟩ = some u := ⟨_, e5 _ _ (List.getElem?_eq_getElem (by omega))⟩
      have HO1 := hide (owns_set (g := g) hown1 rfl (j * 2) (.string (mtx K)))
      have HP1 := hide (pre_set (j * 2 + 1) (a := .string (mtx K)) HY.out (by rw [mkT_get k (n * 2) (j * 2) (by omega), HK.out]) (by omega) rfl)
      have ht1 := hide (gb_set (gb_trans HT.out (gb_new hb1 _)) ⟨g, j * 2, none⟩ (.string (mtx K)) (by rfl))
      clear e5 e2 hown1
      go_wp2_with fail
      generalize w1.setCell ⟨g, j * 2, none⟩ (.string (mtx K)) = w2 at *
      refine (markTx (K + 1) _ (by omega)).mono ?_; rintro x w3 ⟨rfl, hb3⟩
      have hown3 := owns_new HO1.out hb3
      obtain ⟨g', cap'', f1, f2, f3, f4, _, _, f5, f6⟩ := owns_open hown3 (by omega)
      simp only [Value.slice.injEq, Option.some.injEq, Addr.mk.injEq] at f1
      obtain ⟨⟨rfl, _, _⟩, _, rfl⟩ := f1
      have hl3 := hown3.1
      obtain ⟨u1, hu1⟩ : ∃ u, w3.cell? ⟨g, j * 2 + 1, none⟩ = some u := ⟨_, f5 _ _ (List.getElem?_eq_getElem (by omega))⟩
      have HO3 := hide (owns_set (g := g) hown3 rfl (j * 2 + 1) (.string (mtx (K + 1))))
      have HP3 := hide (pre_set ((j + 1) * 2) (a := .string (mtx (K + 1))) HP1.out (by rw [mkT_get k (n * 2) (j * 2 + 1) (by omega), HK.out]; rfl) (by rw [List.length_set] at hl3 ⊢; omega) (by omega))
      have ht3 := hide (gb_set (gb_trans ht1.out (gb_new hb3 _)) ⟨g, j * 2 + 1, none⟩ (.string (mtx (K + 1))) (by rfl))
      clear f5 f2 hown3
      go_wp2_with fail
      exact ⟨⟨j + 1, _, by go_num, int_eq (by have := HK.out; omega), by omega, HO3.out, HP3.out, ht3.out⟩, by simp [intOf]; omega⟩
    · obtain rfl : j = n := by omega
      have hys : ys = mkT k (j * 2) := pre_end hown.1 (mkT_len _ _) hy
      subst hys
      go_wp2_with fail
      go_ret
      exact ⟨rfl, hown, ht⟩
end Go.Proofs.YtllaeakeaabiaaaGreat
/- Frames in plain words: numbers as bytes, heads, frames that are shown and told, in whatever pieces. -/
namespace Go.Proofs.YtllaeakeaabiaaaGreat
open Go.RowKit
set_option maxRecDepth 100000
set_option linter.unusedSimpArgs false
set_option linter.unusedVariables false

/-- A number as bytes, the highest first: so many of them. -/
def bytL : Nat → Int → List Int
  | 0, _ => []
  | c + 1, n => bytL c (n / 256) ++ [n % 256]
theorem bytL_len (c : Nat) : ∀ n, (bytL c n).length = c := by
  induction c with
  | zero => intro n; rfl
  | succ c ih => intro n; simp [bytL, ih]
theorem bytL_range (c : Nat) : ∀ n, ∀ x ∈ bytL c n, 0 ≤ x ∧ x ≤ 255 := by
  induction c with
  | zero => intro n x hx; cases hx
  | succ c ih =>
    intro n x hx
    rcases List.mem_append.1 hx with h | h
    · exact ih _ x h
    · simp at h; omega
def bytV (c : Nat) (n : Int) : ByteArray := strOf (bytL c n)
theorem bytV_size (c : Nat) (n : Int) : (bytV c n).size = c := by unfold bytV; rw [strOf_size, bytL_len]
theorem bytV_bys (c : Nat) (n : Int) : bys (bytV c n) = bytL c n := bys_strOf (bytL_range c n)
theorem snoc_ind {P : List Int → Prop} (h0 : P []) (h1 : ∀ l x, P l → P (l ++ [x])) (l : List Int) : P l := by
  have key : ∀ (n : Nat) (l : List Int), l.length = n → P l := by
    intro n
    induction n with
    | zero => intro l hl; rw [List.length_eq_zero_iff.1 hl]; exact h0
    | succ n ih =>
      intro l hl
      have hne : l ≠ [] := fun e => by rw [e] at hl; simp at hl
      rw [← List.dropLast_concat_getLast hne]
      exact h1 _ _ (ih _ (by simp [hl]))
  exact key _ l rfl
/-- Bytes as a number, the highest first. -/
def numL (l : List Int) : Int := l.foldl (fun a x => a * 256 + x) 0
theorem numL_snoc (l : List Int) (x : Int) : numL (l ++ [x]) = numL l * 256 + x := by simp [numL]
theorem numL_range {l : List Int} : (∀ x ∈ l, 0 ≤ x ∧ x ≤ 255) → 0 ≤ numL l ∧ numL l < 256 ^ l.length := by
  refine snoc_ind (P := fun l => (∀ x ∈ l, 0 ≤ x ∧ x ≤ 255) → 0 ≤ numL l ∧ numL l < 256 ^ l.length) ?_ ?_ l
  · intro h; simp [numL]
  · intro l x ih h
    have i := ih fun y hy => h y (by simp [hy])
    have hx := h x (by simp)
    rw [numL_snoc, List.length_append, List.length_singleton, Int.pow_succ]
    omega
def numV (s : ByteArray) : Int := if 4 < s.size then -1 else numL (bys s)
theorem num_byt (c : Nat) : ∀ n : Int, 0 ≤ n → n < 256 ^ c → numL (bytL c n) = n := by
  induction c with
  | zero => intro n h0 h1; simp at h1; simp [bytL, numL]; omega
  | succ c ih =>
    intro n h0 h1
    rw [Int.pow_succ] at h1
    rw [bytL, numL_snoc, ih (n / 256) (by omega) (by omega)]
    omega
theorem byt_num {l : List Int} : (∀ x ∈ l, 0 ≤ x ∧ x ≤ 255) → bytL l.length (numL l) = l := by
  refine snoc_ind (P := fun l => (∀ x ∈ l, 0 ≤ x ∧ x ≤ 255) → bytL l.length (numL l) = l) ?_ ?_ l
  · intro h; rfl
  · intro l x ih h
    have i := ih fun y hy => h y (by simp [hy])
    have hx := h x (by simp)
    rw [List.length_append, List.length_singleton, numL_snoc, bytL, show (numL l * 256 + x) / 256 = numL l by omega, show (numL l * 256 + x) % 256 = x by omega, i]
/-- NUMBER OF BYTES IS THE NUMBER, BYTES OF A NUMBER ARE THE BYTES. -/
theorem law_num {c : Nat} {n : Int} (hc : c ≤ 4) (h0 : 0 ≤ n) (h1 : n < 256 ^ c) : numV (bytV c n) = n := by
  unfold numV
  rw [bytV_size, if_neg (by omega), bytV_bys, num_byt c n h0 h1]
theorem law_byt {s : ByteArray} (h : s.size ≤ 4) : bytV s.size (numV s) = s := by
  unfold numV
  rw [if_neg (by omega)]
  refine bys_inj ?_
  rw [bytV_bys, ← bys_len, byt_num (bys_range s)]
theorem numV_range {s : ByteArray} (h : s.size ≤ 4) : 0 ≤ numV s ∧ numV s < 256 ^ s.size := by
  unfold numV
  rw [if_neg (by omega), ← bys_len]
  exact numL_range (bys_range s)
theorem numV_long {s : ByteArray} (h : 4 < s.size) : numV s = -1 := by unfold numV; rw [if_pos h]

/-- A Frame. -/
structure Fr where
  k : Int
  fl : Int
  st : Int
  b : ByteArray
/-- May a frame with this head be right? -/
def hdOk (k fl st n : Int) : Bool :=
  if inB fl 0 3 = false ∨ inB st 0 100000 = false ∨ inB n 0 1000 = false then false
  else if k = 1 then decide (0 < st) && (decide (fl < 2) || decide (0 < n))
  else if k = 2 then decide (0 < st) && decide (fl ≤ 1)
  else if k = 3 then decide (0 < st) && (decide (n = 1) && decide (fl = 0))
  else if k = 4 then decide (st = 0) && ((decide (n = 0) || decide (n = 3)) && decide (fl = 0))
  else if k = 5 then decide (st = 0) && (decide (n = 4) && decide (fl ≤ 1))
  else if k = 6 then decide (st = 0) && (decide (n = 4) && decide (fl = 0))
  else if k = 7 then decide (n = 3) && decide (fl = 0)
  else false
/-- The first byte, as a number; -1: there is none. -/
def fst0 (s : ByteArray) : Int := match bys s with | [] => -1 | x :: _ => x
def okFr (f : Fr) : Bool :=
  hdOk f.k f.fl f.st f.b.size &&
    (if f.k = 1 ∧ 2 ≤ f.fl then decide (fst0 f.b ≤ (f.b.size : Int) - 1) else if f.k = 7 then !(f.b.toList == (⟨#[0, 0, 0]⟩ : ByteArray).toList) else true)
theorem hd_parts {k fl st n : Int} (h : hdOk k fl st n = true) : 0 ≤ fl ∧ fl ≤ 3 ∧ 0 ≤ st ∧ st ≤ 100000 ∧ 0 ≤ n ∧ n ≤ 1000 ∧ 1 ≤ k ∧ k ≤ 7 := by
  unfold hdOk at h
  split at h
  · cases h
  · rename_i hc
    have h1 : inB fl 0 3 = true := by cases e : inB fl 0 3 <;> simp_all
    have h2 : inB st 0 100000 = true := by cases e : inB st 0 100000 <;> simp_all
    have h3 : inB n 0 1000 = true := by cases e : inB n 0 1000 <;> simp_all
    have i1 := inB_true h1
    have i2 := inB_true h2
    have i3 := inB_true h3
    have hk : 1 ≤ k ∧ k ≤ 7 := by
      repeat' split at h
      all_goals first | omega | cases h
    omega
theorem ok_head {f : Fr} (h : okFr f = true) : hdOk f.k f.fl f.st f.b.size = true := by unfold okFr at h; simp only [Bool.and_eq_true] at h; exact h.1

/-- The head of a frame: seven bytes. -/
def hdV (f : Fr) : ByteArray := bytV 2 f.b.size ++ (strOf [f.k, f.fl] ++ bytV 3 f.st)
def shwV (f : Fr) : ByteArray := if okFr f then hdV f ++ f.b else ⟨#[]⟩
theorem hdV_size (f : Fr) : (hdV f).size = 7 := by
  unfold hdV
  rw [ba_size_append, ba_size_append, bytV_size, bytV_size, strOf_size]; rfl
/-- What seven bytes tell: how many bytes come behind them, and the frame but for these. -/
def hdN (s : ByteArray) : Int := numV (s.extract 0 2)
def hdF (s b : ByteArray) : Fr := ⟨fst0 (s.extract 2 3), fst0 (s.extract 3 4), numV (s.extract 4 7), b⟩
def noFr : Fr := ⟨0, 0, 0, ⟨#[]⟩⟩
/-- One step: 0: more bytes are wanted; 1: no frame begins so; 2: a frame, and how many bytes it takes. -/
def stp (s : ByteArray) : Nat × Fr × Nat :=
  if s.size < 7 then (0, noFr, 0)
  else if hdOk (hdF s ⟨#[]⟩).k (hdF s ⟨#[]⟩).fl (hdF s ⟨#[]⟩).st (hdN s) = false then (1, noFr, 0)
  else if (s.size : Int) < 7 + hdN s then (0, noFr, 0)
  else if okFr (hdF s (s.extract 7 (7 + (hdN s).toNat))) = false then (1, noFr, 0)
  else (2, hdF s (s.extract 7 (7 + (hdN s).toNat)), 7 + (hdN s).toNat)
/-- The frames with which a text begins, what is left, and whether it may go on so. -/
def frmF : Nat → List Fr → ByteArray → List Fr × ByteArray × Bool
  | 0, out, s => (out, s, true)
  | n + 1, out, s =>
    if (stp s).1 = 0 then (out, s, true)
    else if (stp s).1 = 1 then (out, s, false)
    else frmF n (out ++ [(stp s).2.1]) (s.extract (stp s).2.2 s.size)
def frmV (s : ByteArray) : List Fr × ByteArray × Bool := frmF (s.size + 1) [] s

theorem fst0_one {x : Int} {s : ByteArray} (h : bys s = [x]) : fst0 s = x := by unfold fst0; rw [h]
/-- Seven bytes at least: the first of them by name. -/
theorem seven {s : ByteArray} (h : 7 ≤ s.size) : ∃ a0 a1 k f c0 c1 c2 r, bys s = a0 :: a1 :: k :: f :: c0 :: c1 :: c2 :: r := by
  have hl := bys_len s
  match e : bys s with
  | [] => rw [e] at hl; simp at hl; omega
  | [_] => rw [e] at hl; simp at hl; omega
  | [_, _] => rw [e] at hl; simp at hl; omega
  | [_, _, _] => rw [e] at hl; simp at hl; omega
  | [_, _, _, _] => rw [e] at hl; simp at hl; omega
  | [_, _, _, _, _] => rw [e] at hl; simp at hl; omega
  | [_, _, _, _, _, _] => rw [e] at hl; simp at hl; omega
  | a0 :: a1 :: k :: f :: c0 :: c1 :: c2 :: r => exact ⟨a0, a1, k, f, c0, c1, c2, r, rfl⟩
theorem head7 {s : ByteArray} {a0 a1 k f c0 c1 c2 : Int} {r : List Int} (h : bys s = a0 :: a1 :: k :: f :: c0 :: c1 :: c2 :: r) (b : ByteArray) :
    hdN s = a0 * 256 + a1 ∧ hdF s b = ⟨k, f, (c0 * 256 + c1) * 256 + c2, b⟩ := by
  have hz : 7 ≤ s.size := by have := bys_len s; rw [h] at this; simp at this; omega
  have e1 : bys (s.extract 0 2) = [a0, a1] := by rw [bys_extract, h]; rfl
  have e2 : bys (s.extract 2 3) = [k] := by rw [bys_extract, h]; rfl
  have e3 : bys (s.extract 3 4) = [f] := by rw [bys_extract, h]; rfl
  have e4 : bys (s.extract 4 7) = [c0, c1, c2] := by rw [bys_extract, h]; rfl
  have z1 : (s.extract 0 2).size = 2 := by rw [← bys_len, e1]; rfl
  have z4 : (s.extract 4 7).size = 3 := by rw [← bys_len, e4]; rfl
  refine ⟨?_, ?_⟩
  · unfold hdN numV
    rw [z1, if_neg (by omega), e1]
    simp [numL]
  · unfold hdF
    rw [fst0_one e2, fst0_one e3]
    unfold numV
    rw [z4, if_neg (by omega), e4]
    simp [numL]
theorem bytL2 (n : Int) : bytL 2 n = [n / 256 % 256, n % 256] := rfl
theorem bytL3 (n : Int) : bytL 3 n = [n / 256 / 256 % 256, n / 256 % 256, n % 256] := rfl
theorem hdV_bys {f : Fr} (h1 : 0 ≤ f.k ∧ f.k ≤ 255) (h2 : 0 ≤ f.fl ∧ f.fl ≤ 255) (t : ByteArray) :
    bys (hdV f ++ t) = ((f.b.size : Int) / 256 % 256) :: ((f.b.size : Int) % 256) :: f.k :: f.fl :: (f.st / 256 / 256 % 256) :: (f.st / 256 % 256) :: (f.st % 256) :: bys t := by
  unfold hdV
  rw [bys_append, bys_append, bys_append, bytV_bys, bytV_bys, bytL2, bytL3, bys_strOf (l := [f.k, f.fl]) (by intro x hx; simp at hx; rcases hx with rfl | rfl; exact h1; exact h2)]
  rfl
/-- A frame is told of what it is shown as, whatever comes behind. -/
theorem stp_shown {f : Fr} (h : okFr f = true) (t : ByteArray) : stp (hdV f ++ (f.b ++ t)) = (2, f, 7 + f.b.size) := by
  have hh := ok_head h
  obtain ⟨p1, p2, p3, p4, p5, p6, p7, p8⟩ := hd_parts hh
  have hb := hdV_bys (f := f) (by omega) (by omega) (f.b ++ t)
  obtain ⟨e1, _⟩ := head7 hb ⟨#[]⟩
  have eN : hdN (hdV f ++ (f.b ++ t)) = f.b.size := by rw [e1]; omega
  have eF : ∀ b, hdF (hdV f ++ (f.b ++ t)) b = ⟨f.k, f.fl, f.st, b⟩ := fun b => by
    rw [(head7 hb b).2]
    have : (f.st / 256 / 256 % 256 * 256 + f.st / 256 % 256) * 256 + f.st % 256 = f.st := by omega
    rw [this]
  have hz : (hdV f ++ (f.b ++ t)).size = 7 + f.b.size + t.size := by rw [ba_size_append, ba_size_append, hdV_size]; omega
  have hx : (hdV f ++ (f.b ++ t)).extract 7 (7 + f.b.size) = f.b := by
    have := ba_mid (hdV f) f.b t
    rw [hdV_size, ba_append_assoc] at this
    exact this
  unfold stp
  rw [eN, if_neg (by omega), eF]
  simp only
  rw [if_neg (by rw [hh]; simp), if_neg (by omega), Int.toNat_natCast, hx, eF, if_neg (by rw [h]; simp)]
/-- What is told begins the text, and is right. -/
theorem stp_is {s : ByteArray} (h : (stp s).1 ≠ 0) (h' : (stp s).1 ≠ 1) : okFr (stp s).2.1 = true ∧ (stp s).2.2 = 7 + (stp s).2.1.b.size ∧ (stp s).2.2 ≤ s.size ∧ s = (hdV (stp s).2.1 ++ (stp s).2.1.b) ++ s.extract (stp s).2.2 s.size ∧ (stp s).1 = 2 := by
  unfold stp at h h' ⊢
  split at h
  · simp at h
  rename_i c1
  rw [if_neg c1] at h' ⊢
  split at h'
  · simp at h'
  rename_i c2
  rw [if_neg c2] at h ⊢
  split at h
  · simp at h
  rename_i c3
  rw [if_neg c3] at h' ⊢
  split at h'
  · simp at h'
  rename_i c4
  rw [if_neg c4]
  simp only
  obtain ⟨a0, a1, k, f, c0, c1', c2', r, hb⟩ := seven (s := s) (by omega)
  have hr := bys_range s
  rw [hb] at hr
  have ra0 := hr a0 (by simp)
  have ra1 := hr a1 (by simp)
  have rk := hr k (by simp)
  have rf := hr f (by simp)
  have rc0 := hr c0 (by simp)
  have rc1 := hr c1' (by simp)
  have rc2 := hr c2' (by simp)
  have e1 := (head7 hb ⟨#[]⟩).1
  have eF := fun b => (head7 hb b).2
  have hN : (hdN s).toNat = (a0 * 256 + a1).toNat := by rw [e1]
  have hle : 7 + (hdN s).toNat ≤ s.size := by omega
  have hbz : (s.extract 7 (7 + (hdN s).toNat)).size = (hdN s).toNat := by rw [ba_extract_size hle (by omega)]; omega
  have hok : okFr (hdF s (s.extract 7 (7 + (hdN s).toNat))) = true := by simpa using c4
  refine ⟨hok, by rw [eF]; simp only; rw [hbz], hle, ?_, trivial⟩
  have hsz : ((hdV (hdF s (s.extract 7 (7 + (hdN s).toNat)))) ++ s.extract 7 (7 + (hdN s).toNat)) = s.extract 0 (7 + (hdN s).toNat) := by
    refine bys_inj ?_
    have hk2 : (hdF s (s.extract 7 (7 + (hdN s).toNat))).k = k := by rw [eF]
    have hf2 : (hdF s (s.extract 7 (7 + (hdN s).toNat))).fl = f := by rw [eF]
    have hs2 : (hdF s (s.extract 7 (7 + (hdN s).toNat))).st = (c0 * 256 + c1') * 256 + c2' := by rw [eF]
    have hb2 : (hdF s (s.extract 7 (7 + (hdN s).toNat))).b = s.extract 7 (7 + (hdN s).toNat) := by rw [eF]
    rw [hdV_bys (by rw [hk2]; omega) (by rw [hf2]; omega), hk2, hf2, hs2, hb2, hbz, bys_extract, bys_extract, hb]
    have hn : ((hdN s).toNat : Int) = a0 * 256 + a1 := by omega
    rw [hn, Nat.add_comm 7]
    simp only [List.take_succ_cons, List.drop_succ_cons, List.drop_zero]
    have q1 : (a0 * 256 + a1) / 256 % 256 = a0 := by omega
    have q2 : (a0 * 256 + a1) % 256 = a1 := by omega
    have q3 : ((c0 * 256 + c1') * 256 + c2') / 256 / 256 % 256 = c0 := by omega
    have q4 : ((c0 * 256 + c1') * 256 + c2') / 256 % 256 = c1' := by omega
    have q5 : ((c0 * 256 + c1') * 256 + c2') % 256 = c2' := by omega
    rw [q1, q2, q3, q4, q5]
  have hb3 : (hdF s (s.extract 7 (7 + (hdN s).toNat))).b = s.extract 7 (7 + (hdN s).toNat) := by rw [eF]
  rw [hb3, hsz]
  exact (ba_split s _ hle).symm

theorem stp_three (s : ByteArray) : (stp s).1 = 0 ∨ (stp s).1 = 1 ∨ (stp s).1 = 2 := by
  by_cases h0 : (stp s).1 = 0
  · exact .inl h0
  · by_cases h1 : (stp s).1 = 1
    · exact .inr (.inl h1)
    · exact .inr (.inr (stp_is h0 h1).2.2.2.2)
theorem stp_two {s : ByteArray} (h : (stp s).1 = 2) : okFr (stp s).2.1 = true ∧ (stp s).2.2 = 7 + (stp s).2.1.b.size ∧ (stp s).2.2 ≤ s.size ∧ s = (hdV (stp s).2.1 ++ (stp s).2.1.b) ++ s.extract (stp s).2.2 s.size := by
  obtain ⟨a, b, c, d, _⟩ := stp_is (s := s) (by omega) (by omega)
  exact ⟨a, b, c, d⟩
theorem rest_size {s : ByteArray} (h : (stp s).1 = 2) : (s.extract (stp s).2.2 s.size).size < s.size := by
  obtain ⟨_, h2, h3, _⟩ := stp_two h
  rw [ba_extract_size (Nat.le_refl _) h3]; omega
theorem frm_out (n : Nat) : ∀ (out : List Fr) (s : ByteArray), frmF n out s = (out ++ (frmF n [] s).1, (frmF n [] s).2) := by
  induction n with
  | zero => intro out s; simp [frmF]
  | succ n ih =>
    intro out s
    rw [frmF, frmF]
    split
    · simp
    · split
      · simp
      · rw [ih, ih ([] ++ [_])]; simp
theorem frm_fuel (n : Nat) : ∀ (m : Nat) (out : List Fr) (s : ByteArray), s.size < n → s.size < m → frmF n out s = frmF m out s := by
  induction n with
  | zero => intro m out s h; omega
  | succ n ih =>
    intro m out s h1 h2
    cases m with
    | zero => omega
    | succ m =>
      rw [frmF, frmF]
      split
      · rfl
      · split
        · rfl
        · rename_i c0 c1
          have h := (stp_is c0 c1).2.2.2.2
          have hr := rest_size h
          exact ih m _ _ (by omega) (by omega)
/-- The frames of a text, one step at a time. -/
theorem frm_step (s : ByteArray) : frmV s = if (stp s).1 = 0 then ([], s, true) else if (stp s).1 = 1 then ([], s, false) else ((stp s).2.1 :: (frmV (s.extract (stp s).2.2 s.size)).1, (frmV (s.extract (stp s).2.2 s.size)).2) := by
  conv => lhs; unfold frmV
  rw [frmF]
  split
  · rfl
  · split
    · rfl
    · rename_i c0 c1
      have h := (stp_is c0 c1).2.2.2.2
      have hr := rest_size h
      rw [frm_out, frm_fuel s.size ((s.extract (stp s).2.2 s.size).size + 1) _ _ hr (by omega)]
      rfl
/-- What the frames of a list are shown as, one behind the other. -/
def catV : List Fr → ByteArray
  | [] => ⟨#[]⟩
  | f :: l => shwV f ++ catV l
theorem catV_cons (f : Fr) (l : List Fr) : catV (f :: l) = shwV f ++ catV l := rfl
theorem shw_ok {f : Fr} (h : okFr f = true) : shwV f = hdV f ++ f.b := by unfold shwV; rw [if_pos h]
/-- WHAT IS TOLD IS RIGHT, AND SHOWN IT IS THE TEXT, with what is left behind it. -/
theorem law_told (n : Nat) : ∀ s : ByteArray, s.size ≤ n → (∀ f ∈ (frmV s).1, okFr f = true) ∧ catV (frmV s).1 ++ (frmV s).2.1 = s := by
  induction n with
  | zero =>
    intro s h
    have h0 : (stp s).1 = 0 := by unfold stp; rw [if_pos (by omega)]
    rw [frm_step, if_pos h0]
    exact ⟨fun f hf => (by cases hf), by show (⟨#[]⟩ : ByteArray) ++ s = s; exact ba_nil_append s⟩
  | succ n ih =>
    intro s h
    rw [frm_step]
    split
    · exact ⟨fun f hf => (by cases hf), by show (⟨#[]⟩ : ByteArray) ++ s = s; exact ba_nil_append s⟩
    · split
      · exact ⟨fun f hf => (by cases hf), by show (⟨#[]⟩ : ByteArray) ++ s = s; exact ba_nil_append s⟩
      · rename_i c0 c1
        have h2 := (stp_is c0 c1).2.2.2.2
        obtain ⟨hok, _, _, hs⟩ := stp_two h2
        have hr := rest_size h2
        obtain ⟨i1, i2⟩ := ih (s.extract (stp s).2.2 s.size) (by omega)
        refine ⟨fun f hf => ?_, ?_⟩
        · rcases List.mem_cons.1 hf with rfl | hf
          · exact hok
          · exact i1 f hf
        · dsimp only
          rw [catV_cons]
          have hw := shw_ok hok
          generalize stp s = S at hs i2 hw ⊢
          rw [ba_append_assoc, i2, hw]
          exact hs.symm
/-- A frame ahead of whatever else. -/
theorem frm_cons {f : Fr} (h : okFr f = true) (u : ByteArray) : frmV (shwV f ++ u) = (f :: (frmV u).1, (frmV u).2) := by
  have e : shwV f ++ u = hdV f ++ (f.b ++ u) := by rw [shw_ok h, ba_append_assoc]
  have hs := stp_shown h u
  rw [frm_step, e, hs]
  simp only
  have hx : (hdV f ++ (f.b ++ u)).extract (7 + f.b.size) (hdV f ++ (f.b ++ u)).size = u := by
    have h2 : (hdV f ++ f.b).size = 7 + f.b.size := by rw [ba_size_append, hdV_size]
    rw [← ba_append_assoc, ← h2]
    exact ba_right _ _
  rw [hx]
  simp
theorem ext_left {p q : ByteArray} {i j : Nat} (h : j ≤ p.size) : (p ++ q).extract i j = p.extract i j := by
  refine bys_inj ?_
  rw [bys_extract, bys_extract, bys_append, List.take_append_of_le_length (by rw [bys_len]; exact h)]
theorem ext_rest {p q : ByteArray} {m : Nat} (h : m ≤ p.size) : (p ++ q).extract m (p ++ q).size = p.extract m p.size ++ q := by
  refine bys_inj ?_
  have t1 : (bys (p ++ q)).take (p ++ q).size = bys (p ++ q) := List.take_of_length_le (by rw [bys_len]; omega)
  have t2 : (bys p).take p.size = bys p := List.take_of_length_le (by rw [bys_len]; omega)
  rw [bys_extract, t1, bys_append, bys_append, bys_extract, t2, List.drop_append_of_le_length (by rw [bys_len]; exact h)]
theorem head_same {p : ByteArray} (h : 7 ≤ p.size) (q : ByteArray) : hdN (p ++ q) = hdN p ∧ ∀ b, hdF (p ++ q) b = hdF p b := by
  refine ⟨?_, fun b => ?_⟩
  · unfold hdN; rw [ext_left (by omega)]
  · unfold hdF; rw [ext_left (by omega), ext_left (by omega), ext_left (by omega)]
theorem stp_more {p : ByteArray} (h : (stp p).1 = 2) (q : ByteArray) : stp (p ++ q) = stp p := by
  obtain ⟨hok, h2, h3, hs⟩ := stp_two h
  have e : p ++ q = hdV (stp p).2.1 ++ ((stp p).2.1.b ++ (p.extract (stp p).2.2 p.size ++ q)) := by
    conv => lhs; rw [hs]
    rw [ba_append_assoc, ba_append_assoc]
  have := stp_shown hok (p.extract (stp p).2.2 p.size ++ q)
  rw [← e] at this
  rw [this, ← h2, ← h]
theorem stp_bad {p : ByteArray} (h : (stp p).1 = 1) (q : ByteArray) : (stp (p ++ q)).1 = 1 := by
  have hz := ba_size_append p q
  unfold stp at h
  split at h
  · simp at h
  rename_i c1
  obtain ⟨hN, hF⟩ := head_same (p := p) (by omega) q
  split at h
  · rename_i c2
    unfold stp
    rw [if_neg (by omega), hN, hF, if_pos c2]
  · rename_i c2
    split at h
    · simp at h
    rename_i c3
    split at h
    · rename_i c4
      unfold stp
      rw [if_neg (by omega), hN, hF, if_neg c2, if_neg (by omega), ext_left (by omega), hF, if_pos c4]
    · simp at h
/-- IN WHATEVER PIECES. -/
theorem law_pieces (n : Nat) : ∀ p : ByteArray, p.size ≤ n → ∀ q, ((frmV p).2.2 = true → frmV (p ++ q) = ((frmV p).1 ++ (frmV ((frmV p).2.1 ++ q)).1, (frmV ((frmV p).2.1 ++ q)).2)) ∧ ((frmV p).2.2 = false → frmV (p ++ q) = ((frmV p).1, (frmV p).2.1 ++ q, false)) := by
  induction n with
  | zero =>
    intro p h q
    have h0 : (stp p).1 = 0 := by unfold stp; rw [if_pos (by omega)]
    have e : frmV p = ([], p, true) := by rw [frm_step, if_pos h0]
    rw [e]
    exact ⟨fun _ => rfl, fun h => (by cases h)⟩
  | succ n ih =>
    intro p h q
    rcases stp_three p with h0 | h1 | h2
    · have e : frmV p = ([], p, true) := by rw [frm_step, if_pos h0]
      rw [e]
      exact ⟨fun _ => rfl, fun h => (by cases h)⟩
    · have e : frmV p = ([], p, false) := by rw [frm_step, if_neg (by omega), if_pos h1]
      rw [e]
      refine ⟨fun h => (by cases h), fun _ => ?_⟩
      have hb := stp_bad h1 q
      rw [frm_step, if_neg (by omega), if_pos hb]
    · have e : frmV p = ((stp p).2.1 :: (frmV (p.extract (stp p).2.2 p.size)).1, (frmV (p.extract (stp p).2.2 p.size)).2) := by rw [frm_step, if_neg (by omega), if_neg (by omega)]
      have hr := rest_size h2
      obtain ⟨i1, i2⟩ := ih (p.extract (stp p).2.2 p.size) (by omega) q
      have hm := stp_more h2 q
      have e2 : frmV (p ++ q) = ((stp p).2.1 :: (frmV (p.extract (stp p).2.2 p.size ++ q)).1, (frmV (p.extract (stp p).2.2 p.size ++ q)).2) := by
        rw [frm_step, hm, if_neg (by omega), if_neg (by omega), ext_rest (stp_two h2).2.2.1]
      rw [e2, e]
      simp only
      refine ⟨fun h => ?_, fun h => ?_⟩
      · rw [i1 h]; simp
      · rw [i2 h]
/-- All but the last byte of a frame: more is wanted. -/
theorem stp_short {f : Fr} (h : okFr f = true) : (stp ((shwV f).extract 0 ((shwV f).size - 1))).1 = 0 := by
  have hh := ok_head h
  obtain ⟨p1, p2, p3, p4, p5, p6, p7, p8⟩ := hd_parts hh
  rw [shw_ok h]
  have hz : (hdV f ++ f.b).size = 7 + f.b.size := by rw [ba_size_append, hdV_size]
  have hy : ((hdV f ++ f.b).extract 0 ((hdV f ++ f.b).size - 1)).size = 6 + f.b.size := by rw [ba_extract_size (by omega) (by omega)]; omega
  by_cases h0 : f.b.size = 0
  · unfold stp; rw [if_pos (by omega)]
  · obtain ⟨t, ht⟩ : ∃ t, (hdV f ++ f.b).extract 0 ((hdV f ++ f.b).size - 1) = t := ⟨_, rfl⟩
    rw [ht] at hy ⊢
    have hs : t ++ (hdV f ++ f.b).extract ((hdV f ++ f.b).size - 1) (hdV f ++ f.b).size = hdV f ++ f.b := by rw [← ht]; exact ba_split _ _ (by omega)
    obtain ⟨hN, hF⟩ := head_same (p := t) (by omega) ((hdV f ++ f.b).extract ((hdV f ++ f.b).size - 1) (hdV f ++ f.b).size)
    rw [hs] at hN hF
    have hb := hdV_bys (f := f) (by omega) (by omega) f.b
    have e1 := (head7 hb ⟨#[]⟩).1
    have eN : hdN t = f.b.size := by rw [← hN, e1]; omega
    have eF : hdF t ⟨#[]⟩ = ⟨f.k, f.fl, f.st, ⟨#[]⟩⟩ := by
      rw [← hF, (head7 hb ⟨#[]⟩).2]
      have : (f.st / 256 / 256 % 256 * 256 + f.st / 256 % 256) * 256 + f.st % 256 = f.st := by omega
      rw [this]
    unfold stp
    rw [if_neg (by omega), eN, eF]
    dsimp only
    rw [if_neg (by rw [hh]; simp), if_pos (by omega)]
/-- A FRAME TWICE AND ALL BUT ITS LAST BYTE. -/
theorem law_twice {f : Fr} (h : okFr f = true) : frmV (shwV f ++ (shwV f ++ (shwV f).extract 0 ((shwV f).size - 1))) = ([f, f], (shwV f).extract 0 ((shwV f).size - 1), true) := by
  rw [frm_cons h, frm_cons h, frm_step, if_pos (stp_short h)]
/-- What a frame carries: behind the first byte, without as many last bytes as it tells. -/
def payV (f : Fr) : ByteArray := if okFr f then (if f.k = 1 ∧ 2 ≤ f.fl then f.b.extract 1 ((f.b.size : Int) - fst0 f.b).toNat else f.b) else ⟨#[]⟩
theorem pay_le (f : Fr) : (payV f).size ≤ f.b.size := by
  unfold payV
  split
  · split
    · rw [← bys_len, bys_extract, List.length_drop, List.length_take, bys_len]; omega
    · exact Nat.le_refl _
  · exact Nat.zero_le _
end Go.Proofs.YtllaeakeaabiaaaGreat
/- Tokens in plain words: the mac, numbers as texts and back, texts parted at a sign. -/
namespace Go.Proofs.YtllaeakeaabiaaaGreat
open Go.RowKit
set_option maxRecDepth 100000
set_option linter.unusedSimpArgs false
set_option linter.unusedVariables false
def macS (h b : Int) : Int := (h * 1000003 + b + 1) % 2147483647
def macL (h : Int) : List Int → Int
  | [] => h
  | b :: l => macL (macS h b) l
theorem macL_app (h : Int) (a b : List Int) : macL h (a ++ b) = macL (macL h a) b := by
  induction a generalizing h with
  | nil => rfl
  | cons x a ih => exact ih _
theorem macS_range (h b : Int) : 0 ≤ macS h b ∧ macS h b ≤ 2147483646 := by
  unfold macS
  have h1 := Int.emod_nonneg (h * 1000003 + b + 1) (show (2147483647 : Int) ≠ 0 by decide)
  have h2 := Int.emod_lt_of_pos (h * 1000003 + b + 1) (show (0 : Int) < 2147483647 by decide)
  omega
theorem macL_range {h : Int} (l : List Int) (h0 : 0 ≤ h) (h1 : h ≤ 2147483646) : 0 ≤ macL h l ∧ macL h l ≤ 2147483646 := by
  induction l generalizing h with
  | nil => exact ⟨h0, h1⟩
  | cons b l ih => have := macS_range h b; exact ih this.1 this.2
def macV (key text : ByteArray) : Int := macL 17 (bys key ++ ([10] ++ (bys text ++ ([10] ++ bys key))))
theorem macV_range (key text : ByteArray) : 0 ≤ macV key text ∧ macV key text ≤ 2147483646 := macL_range _ (by decide) (by decide)
def nameB (s : ByteArray) : Bool := (bys s).all (fun b => inB b 97 122) && inB (s.size : Int) 1 20
/-- A number's digits. -/
def decFT : Nat → Nat → List Int
  | 0, _ => []
  | f + 1, n => if n < 10 then [48 + (n : Int)] else decFT f (n / 10) ++ [48 + ((n % 10 : Nat) : Int)]
def decL (n : Nat) : List Int := decFT (n + 1) n
theorem decF_eq : ∀ (f f' n : Nat), n < f → n < f' → decFT f n = decFT f' n
  | 0, _, _, h, _ => absurd h (Nat.not_lt_zero _)
  | _ + 1, 0, _, _, h => absurd h (Nat.not_lt_zero _)
  | f + 1, f' + 1, n, h, h' => by
    unfold decFT
    split
    · rfl
    · rename_i hn
      rw [decF_eq f f' (n / 10) (by omega) (by omega)]
theorem decL_step {n : Nat} (h : ¬ n < 10) : decL n = decL (n / 10) ++ [48 + ((n % 10 : Nat) : Int)] := by
  show decFT (n + 1) n = _
  rw [decFT, if_neg h]
  unfold decL
  rw [decF_eq n (n / 10 + 1) (n / 10) (by omega) (by omega)]
theorem decL_one {n : Nat} (h : n < 10) : decL n = [48 + (n : Int)] := by
  show decFT (n + 1) n = _
  rw [decFT, if_pos h]
theorem decL_range (n : Nat) : ∀ x ∈ decL n, 48 ≤ x ∧ x ≤ 57 := by
  induction n using Nat.strongRecOn with
  | _ n ih =>
    by_cases h : n < 10
    · rw [decL_one h]; intro x hx; simp at hx; omega
    · rw [decL_step h]
      intro x hx
      rcases List.mem_append.1 hx with hx | hx
      · exact ih (n / 10) (by omega) x hx
      · simp at hx; omega
theorem decL_len (n : Nat) : 1 ≤ (decL n).length := by
  by_cases h : n < 10
  · rw [decL_one h]; simp
  · rw [decL_step h]; simp
/-- How many digits there are. -/
theorem decL_short : ∀ (k n : Nat), n < 10 ^ k → 0 < k → (decL n).length ≤ k
  | 0, _, _, h => absurd h (Nat.lt_irrefl _)
  | k + 1, n, h, _ => by
    by_cases h1 : n < 10
    · rw [decL_one h1]; simp
    · rw [decL_step h1]
      have hk : 0 < k := by
        rcases Nat.eq_zero_or_pos k with e | e
        · subst e; simp at h; omega
        · exact e
      have := decL_short k (n / 10) (by rw [Nat.pow_succ] at h; omega) hk
      simp; omega
def valL (n : Int) : List Int → Int
  | [] => n
  | b :: l => valL (n * 10 + (b - 48)) l
theorem valL_app (n : Int) (a b : List Int) : valL n (a ++ b) = valL (valL n a) b := by
  induction a generalizing n with
  | nil => rfl
  | cons x a ih => exact ih _
theorem valL_dec (n : Nat) : valL 0 (decL n) = n := by
  induction n using Nat.strongRecOn with
  | _ n ih =>
    by_cases h : n < 10
    · rw [decL_one h]; simp [valL]; omega
    · rw [decL_step h, valL_app, ih (n / 10) (by omega)]
      simp only [valL]
      omega
theorem dec_first {n : Nat} (h : (decL n).head? = some 48) : n = 0 := by
  induction n using Nat.strongRecOn with
  | _ n ih =>
    by_cases h1 : n < 10
    · rw [decL_one h1] at h; simp at h; omega
    · rw [decL_step h1] at h
      have hl := decL_len (n / 10)
      cases hd : decL (n / 10) with
      | nil => rw [hd] at hl; simp at hl
      | cons x l =>
        rw [hd] at h
        have := ih (n / 10) (by omega) (by rw [hd]; simpa using h)
        omega
/-- A number of at most so many digits, as texts have it. -/
def digL (neg : Bool) (l : List Int) (most : Nat) : Int × Bool :=
  if l.length < 1 ∨ most < l.length then (0, false)
  else if l.all (fun b => inB b 48 57) = false then (0, false)
  else if l.head? = some 48 ∧ (neg = true ∨ 1 < l.length) then (0, false)
  else (if neg = true then - valL 0 l else valL 0 l, true)
def digV (s : ByteArray) (most : Nat) : Int × Bool := if (bys s).head? = some 45 then digL true ((bys s).drop 1) most else digL false (bys s) most
theorem digL_dec {n most : Nat} (h : (decL n).length ≤ most) : digL false (decL n) most = ((n : Int), true) := by
  unfold digL
  have hl := decL_len n
  rw [if_neg (by omega)]
  have ha : (decL n).all (fun b => inB b 48 57) = true := List.all_eq_true.2 fun x hx => inB_of (decL_range n x hx).1 (decL_range n x hx).2
  rw [if_neg (by rw [ha]; simp), if_neg ?_]
  · simp [valL_dec]
  · rintro ⟨h1, h2⟩
    have := dec_first h1
    subst this
    rcases h2 with h2 | h2
    · cases h2
    · rw [decL_one (by decide)] at h2; simp at h2
def timeB (t : Int) : Bool := inB t 0 1000000
def tokB (name : ByteArray) (until_ : Int) : List Int := bys name ++ ([46] ++ decL until_.toNat)
def tokL (name : ByteArray) (until_ : Int) (key : ByteArray) : List Int :=
  if nameB name = true ∧ timeB until_ = true ∧ key.size ≤ 40 then tokB name until_ ++ ([46] ++ decL (macV key (strOf (tokB name until_))).toNat) else []
def tokV (name : ByteArray) (until_ : Int) (key : ByteArray) : ByteArray := strOf (tokL name until_ key)
/-- A text parted at each sign 46. -/
def splitL : List Int → List (List Int)
  | [] => [] :: []
  | b :: l => if b = 46 then [] :: splitL l else match splitL l with
    | [] => [b] :: []
    | x :: r => (b :: x) :: r
theorem splitL_none {l : List Int} (h : ∀ x ∈ l, x ≠ 46) : splitL l = [l] := by
  induction l with
  | nil => rfl
  | cons b l ih =>
    unfold splitL
    rw [if_neg (h b (by simp)), ih (fun x hx => h x (by simp [hx]))]
theorem splitL_app {a b : List Int} (h : ∀ x ∈ a, x ≠ 46) : splitL (a ++ 46 :: b) = a :: splitL b := by
  induction a with
  | nil => simp [splitL]
  | cons x a ih =>
    have e := ih (fun y hy => h y (by simp [hy]))
    show splitL (x :: (a ++ 46 :: b)) = _
    rw [splitL, if_neg (h x (by simp)), e]
def readV (s : ByteArray) : ByteArray × Int × Bool :=
  match splitL (bys s) with
  | [x, y, z] => if nameB (strOf x) = true ∧ (digV (strOf y) 9).2 = true ∧ (digV (strOf z) 10).2 = true ∧ timeB (digV (strOf y) 9).1 = true ∧ inB (digV (strOf z) 10).1 0 2147483646 = true then (strOf x, (digV (strOf y) 9).1, true) else (⟨#[]⟩, 0, false)
  | _ => (⟨#[]⟩, 0, false)
def signV (s key : ByteArray) (now : Int) : Bool := (readV s).2.2 && decide (now < (readV s).2.1) && decide (s = tokV (readV s).1 (readV s).2.1 key)
theorem tok_range {name : ByteArray} {u : Int} : ∀ x ∈ tokB name u, 0 ≤ x ∧ x ≤ 255 := by
  intro x hx
  unfold tokB at hx
  simp only [List.mem_append, List.mem_singleton] at hx
  rcases hx with hx | rfl | hx
  · exact bys_range name x hx
  · decide
  · have := decL_range _ x hx; omega
theorem tokL_range {name : ByteArray} {u : Int} {key : ByteArray} : ∀ x ∈ tokL name u key, 0 ≤ x ∧ x ≤ 255 := by
  intro x hx
  unfold tokL at hx
  split at hx
  · simp only [List.mem_append, List.mem_singleton] at hx
    rcases hx with hx | rfl | hx
    · exact tok_range x hx
    · decide
    · have := decL_range _ x hx; omega
  · cases hx
/-- A token is read as it was made. -/
theorem read_tok {name : ByteArray} {u : Int} {key : ByteArray} (h1 : nameB name = true) (h2 : timeB u = true) (h3 : key.size ≤ 40) : readV (tokV name u key) = (name, u, true) := by
  have hb : bys (tokV name u key) = tokL name u key := bys_strOf tokL_range
  obtain ⟨t0, t1⟩ := inB_true h2
  have hn : ∀ x ∈ bys name, x ≠ 46 := fun x hx e => by
    unfold nameB at h1
    simp only [Bool.and_eq_true, List.all_eq_true] at h1
    have := inB_true (h1.1 x hx)
    omega
  have hd : ∀ k, ∀ x ∈ decL k, x ≠ 46 := fun k x hx e => by have := decL_range k x hx; omega
  have hs : splitL (tokL name u key) = [bys name, decL u.toNat, decL (macV key (strOf (tokB name u))).toNat] := by
    unfold tokL
    rw [if_pos ⟨h1, h2, h3⟩]
    show splitL ((bys name ++ ([46] ++ decL u.toNat)) ++ ([46] ++ decL _)) = _
    rw [List.append_assoc]
    show splitL (bys name ++ 46 :: (decL u.toNat ++ 46 :: decL _)) = _
    rw [splitL_app hn, splitL_app (hd _), splitL_none (hd _)]
  have dv : ∀ k most : Nat, (decL k).length ≤ most → digV (strOf (decL k)) most = ((k : Int), true) := fun k most hk => by
    have e : bys (strOf (decL k)) = decL k := bys_strOf (fun x hx => by have := decL_range k x hx; omega)
    unfold digV
    rw [e, if_neg, digL_dec hk]
    intro c
    have hm : (45 : Int) ∈ decL k := List.mem_of_head? c
    have := decL_range k 45 hm
    omega
  have m := macV_range key (strOf (tokB name u))
  have dy := dv u.toNat 9 (decL_short 9 _ (by omega) (by decide))
  have dz := dv (macV key (strOf (tokB name u))).toNat 10 (decL_short 10 _ (by omega) (by decide))
  unfold readV
  rw [hb, hs]
  simp only [dy, dz, strOf_bys]
  rw [if_pos ⟨h1, trivial, trivial, inB_of (by omega) (by omega), inB_of (by omega) (by omega)⟩]
  have e : ((u.toNat : Nat) : Int) = u := by omega
  rw [e]
theorem tok_empty {name : ByteArray} {u : Int} {key : ByteArray} : tokV name u key = ⟨#[]⟩ ↔ ¬ (nameB name = true ∧ timeB u = true ∧ key.size ≤ 40) := by
  constructor
  · intro h c
    have hb : bys (tokV name u key) = tokL name u key := bys_strOf tokL_range
    rw [h] at hb
    unfold tokL at hb
    rw [if_pos c] at hb
    have : (bys (⟨#[]⟩ : ByteArray)).length = 0 := rfl
    rw [hb] at this
    simp at this
  · intro h
    unfold tokV tokL
    rw [if_neg h]; rfl
theorem dec_inj {a b : Nat} (h : decL a = decL b) : a = b := by
  have h1 := valL_dec a
  rw [h, valL_dec b] at h1
  omega
/-- Two keys make one token of a name and a time just where they make one mac of the text ahead. -/
theorem tok_same {name : ByteArray} {u : Int} {key key' : ByteArray} (h1 : nameB name = true) (h2 : timeB u = true) (h3 : key.size ≤ 40) (h4 : key'.size ≤ 40) : tokV name u key = tokV name u key' ↔ macV key (strOf (tokB name u)) = macV key' (strOf (tokB name u)) := by
  have b1 : bys (tokV name u key) = tokL name u key := bys_strOf tokL_range
  have b2 : bys (tokV name u key') = tokL name u key' := bys_strOf tokL_range
  have m1 := macV_range key (strOf (tokB name u))
  have m2 := macV_range key' (strOf (tokB name u))
  constructor
  · intro h
    rw [h, b2] at b1
    unfold tokL at b1
    rw [if_pos ⟨h1, h2, h4⟩, if_pos ⟨h1, h2, h3⟩] at b1
    have e := List.append_cancel_left (List.append_cancel_left b1)
    have := dec_inj e
    omega
  · intro h
    refine bys_inj ?_
    rw [b1, b2]
    unfold tokL
    rw [if_pos ⟨h1, h2, h3⟩, if_pos ⟨h1, h2, h4⟩, h]
/-- A token is signed while it lasts by its own key, and by another one just where both make one mac. -/
theorem sign_tok {name : ByteArray} {u : Int} {key key' : ByteArray} (now : Int) (h1 : nameB name = true) (h2 : timeB u = true) (h3 : key.size ≤ 40) (h4 : key'.size ≤ 40) : signV (tokV name u key) key' now = (decide (now < u) && decide (macV key (strOf (tokB name u)) = macV key' (strOf (tokB name u)))) := by
  unfold signV
  rw [read_tok h1 h2 h3]
  simp only [Bool.true_and]
  congr 1
  exact decide_eq_decide.2 (tok_same h1 h2 h3 h4)
/-- What is signed is a token of this key that lasts. -/
theorem sign_is {s key : ByteArray} {now : Int} (h : signV s key now = true) : (readV s).2.2 = true ∧ now < (readV s).2.1 ∧ tokV (readV s).1 (readV s).2.1 key = s := by
  unfold signV at h
  simp only [Bool.and_eq_true, decide_eq_true_eq] at h
  exact ⟨h.1.1, h.1.2, h.2.symm⟩
end Go.Proofs.YtllaeakeaabiaaaGreat
/- How long a mark's text is. -/
namespace Go.Proofs.YtllaeakeaabiaaaGreat
open Go.RowKit
set_option maxRecDepth 100000
set_option linter.unusedSimpArgs false
set_option linter.unusedVariables false
theorem mtF_size : ∀ (n k : Nat) (acc : ByteArray), (mtF n k acc).size ≤ acc.size + n
  | 0, k, acc => by simp [mtF]
  | n + 1, k, acc => by
    unfold mtF
    split
    · omega
    · have := mtF_size n (k / 10) (strOf [48 + ((k % 10 : Nat) : Int)] ++ acc)
      rw [ByteArray.size_append, strOf_size] at this
      simp only [List.length_singleton] at this
      omega
theorem mtx_size (k : Nat) : (mtx k).size ≤ k + 2 := by
  unfold mtx
  split
  · have : (⟨#[109, 48]⟩ : ByteArray).size = 2 := rfl
    omega
  · have := mtF_size k k ⟨#[]⟩
    have h0 : (⟨#[]⟩ : ByteArray).size = 0 := rfl
    have h1 : (⟨#[109]⟩ : ByteArray).size = 1 := rfl
    rw [ByteArray.size_append]
    omega
end Go.Proofs.YtllaeakeaabiaaaGreat
/- A run of cells in the midst of a block: read, written cell by cell, with what lies ahead and behind. -/
namespace Go.Proofs.YtllaeakeaabiaaaGreat
open Go.RowKit
set_option maxRecDepth 100000
set_option linter.unusedSimpArgs false
set_option linter.unusedVariables false

/-- The cells cs lie in block b from o on; A lies ahead of them, C behind. -/
structure MidIs (w : World) (b : Nat) (ty : TypeId) (A C : List Value) (o : Nat) (cs : List Value) : Prop where
  row : RowIs w b ty (A ++ cs ++ C)
  off : A.length = o
section
variable {w w' : World} {b o : Nat} {ty : TypeId} {A C cs : List Value}
theorem MidIs.lt (h : MidIs w b ty A C o cs) : b < w.heap.size := h.row.lt
theorem mid_get (A cs C : List Value) {j : Nat} {u : Value} (hu : cs[j]? = some u) : (A ++ cs ++ C)[A.length + j]? = some u := by
  have hj : j < cs.length := (List.getElem?_eq_some_iff.1 hu).1
  rw [List.append_assoc, List.getElem?_append_right (by omega), Nat.add_sub_cancel_left, List.getElem?_append_left hj]
  exact hu
theorem MidIs.cell (h : MidIs w b ty A C o cs) {j : Nat} {u : Value} (hu : cs[j]? = some u) : w.cell? ⟨b, o + j, none⟩ = some u := by
  have := h.off
  subst this
  exact h.row.cell (mid_get A cs C hu)
theorem MidIs.cell0 (h : MidIs w b ty A C o cs) {u : Value} (hu : cs[0]? = some u) : w.cell? ⟨b, o, none⟩ = some u := h.cell (j := 0) hu
theorem MidIs.frozen (h : MidIs w b ty A C o cs) (j : Nat) : w.frozen? ⟨b, j, none⟩ = false := h.row.frozen j
theorem MidIs.kept (h : MidIs w b ty A C o cs) (hk : w'.heap[b]? = w.heap[b]?) : MidIs w' b ty A C o cs := ⟨h.row.kept hk, h.off⟩
theorem MidIs.new (h : MidIs w b ty A C o cs) (hb : Below w.heap.size w w') : MidIs w' b ty A C o cs := ⟨h.row.new hb, h.off⟩
theorem MidIs.alloc (h : MidIs w b ty A C o cs) (x : Obj) : MidIs (w.alloc x) b ty A C o cs := ⟨h.row.alloc x, h.off⟩
theorem MidIs.far (h : MidIs w b ty A C o cs) (p : Addr) (v : Value) (hp : p.block ≠ b) : MidIs (w.setCell p v) b ty A C o cs := ⟨h.row.far p v hp, h.off⟩
theorem MidIs.drewN (h : MidIs w b ty A C o cs) (n : Nat) : MidIs (w.drewN n) b ty A C o cs := ⟨h.row.drewN n, h.off⟩
theorem mid_set (A cs C : List Value) (j : Nat) (hj : j < cs.length) (v : Value) : (A ++ cs ++ C).set (A.length + j) v = A ++ cs.set j v ++ C := by
  rw [List.append_assoc, List.set_append_right _ _ (by omega), Nat.add_sub_cancel_left, List.set_append_left _ _ hj, List.append_assoc]
theorem MidIs.set (h : MidIs w b ty A C o cs) (j : Nat) (v : Value) (hj : j < cs.length) : MidIs (w.setCell ⟨b, o + j, none⟩ v) b ty A C o (cs.set j v) := by
  have e := h.off
  subst e
  refine ⟨?_, rfl⟩
  rw [← mid_set A cs C j hj v]
  exact h.row.set _ v
theorem MidIs.set0 (h : MidIs w b ty A C o cs) (v : Value) (hj : 0 < cs.length) : MidIs (w.setCell ⟨b, o, none⟩ v) b ty A C o (cs.set 0 v) := h.set 0 v hj
end
/-- What a row's block may have become: the same, or a new one. -/
def Newer (w : World) (v v' : Value) : Prop := ∀ k, v'.ownBlock = some k → v.ownBlock = some k ∨ w.heap.size ≤ k
theorem Newer.refl (w : World) (v : Value) : Newer w v v := fun _ h => .inl h
theorem Newer.trans {w w' : World} {a b c : Value} (h : Newer w a b) (k : Newer w' b c) (hs : w.heap.size ≤ w'.heap.size) : Newer w a c := fun q hq => by
  rcases k q hq with e | e
  · exact h q e
  · exact .inr (Nat.le_trans hs e)
end Go.Proofs.YtllaeakeaabiaaaGreat
/- What each Go function of chapter 1 (pipes) answers at every argument, the second half: those that hand back a pipe. -/
namespace Go.Proofs.YtllaeakeaabiaaaGreat
open Go.RowKit
set_option maxRecDepth 100000
set_option linter.unusedSimpArgs false
set_option linter.unusedVariables false

theorem tear (r : Int) (b : ByteArray) (e k : Bool) (w : World) :
    Calls Tryz.prog 207 #[.agg #[.int .i64 r, .string b, .bool e, .bool k]] w fun x w' => x = .returned (.agg #[.int .i64 r, .string ⟨#[]⟩, .bool e, .bool true]) ∧ Below w.heap.size w w' := by
  go_enter Tryz.func207, Tryz.ntmps207
  go_wp2
  go_returns
  exact ⟨rfl, (by repeat' (first | (with_reducible exact Below.refl _ _) | (with_reducible refine Below.drew ?_) | (with_reducible refine bo_drewN _ ?_) | (with_reducible refine bo_alloc ?_ _) | (refine bchain ?_ (by with_reducible assumption)) | (with_reducible refine Below.setCell ?_ ?_ _) | go_size))⟩



theorem apart (r : Int) (b : ByteArray) (e k : Bool) (w : World) (hb : b.size ≤ 281474976710656) :
    Calls Tryz.prog 206 #[.agg #[.int .i64 r, .string b, .bool e, .bool k]] w fun x w' => x = .returned (.agg #[.int .i64 r, .string b, .bool e, .bool k]) ∧ Below w.heap.size w w' := by
  go_enter Tryz.func206, Tryz.ntmps206
  go_wp2_with fail
  refine (clone b _ hb).mono ?_; rintro x w1 ⟨rfl, hb1⟩; have hz1 := hb1.size; (try simp at hz1); have hc1 := fun o => hb1.cell (p := ⟨w.heap.size, o, none⟩) (by first | (simp; done) | (simp; omega) | omega); have hf1 := fun o => hb1.frozen (p := ⟨w.heap.size, o, none⟩) (by first | (simp; done) | (simp; omega) | omega); have hcn1 := fun o => hb1.cell (p := ⟨w.heap.size + 1, o, none⟩) (by first | (simp; done) | (simp; omega) | omega); have hfn1 := fun o => hb1.frozen (p := ⟨w.heap.size + 1, o, none⟩) (by first | (simp; done) | (simp; omega) | omega)
  go_wp2_with fail
  refine bodyPost_ret (v := .agg #[.int .i64 r, .string b, .bool e, .bool k]) (by simp [results, Tryz.results206, go_sem, *]) rfl ?_
  exact ⟨rfl, (by repeat' (first | (with_reducible exact Below.refl _ _) | (with_reducible refine Below.drew ?_) | (with_reducible refine bo_drewN _ ?_) | (with_reducible refine bo_alloc ?_ _) | (refine bchain ?_ (by with_reducible assumption)) | (with_reducible refine Below.setCell ?_ ?_ _) | go_size))⟩

theorem endP (r : Int) (b : ByteArray) (e k : Bool) (w : World) (hb : b.size ≤ 281474976710656) :
    Calls Tryz.prog 241 #[.agg #[.int .i64 r, .string b, .bool e, .bool k]] w fun x w' => x = .returned (.agg #[.int .i64 r, .string b, .bool true, .bool k]) ∧ Below w.heap.size w w' := by
  go_enter Tryz.func241, Tryz.ntmps241
  go_wp2_with fail
  refine (apart r b true k _ hb).mono ?_; rintro x w1 ⟨rfl, hb1⟩; have hz1 := hb1.size; (try simp at hz1); have hc1 := fun o => hb1.cell (p := ⟨w.heap.size, o, none⟩) (by first | (simp; done) | (simp; omega) | omega); have hf1 := fun o => hb1.frozen (p := ⟨w.heap.size, o, none⟩) (by first | (simp; done) | (simp; omega) | omega); have hcn1 := fun o => hb1.cell (p := ⟨w.heap.size + 1, o, none⟩) (by first | (simp; done) | (simp; omega) | omega); have hfn1 := fun o => hb1.frozen (p := ⟨w.heap.size + 1, o, none⟩) (by first | (simp; done) | (simp; omega) | omega)
  go_wp2_with fail
  refine bodyPost_ret (v := .agg #[.int .i64 r, .string b, .bool true, .bool k]) (by simp [results, Tryz.results241, go_sem, *]) rfl ?_
  exact ⟨rfl, (by repeat' (first | (with_reducible exact Below.refl _ _) | (with_reducible refine Below.drew ?_) | (with_reducible refine bo_drewN _ ?_) | (with_reducible refine bo_alloc ?_ _) | (refine bchain ?_ (by with_reducible assumption)) | (with_reducible refine Below.setCell ?_ ?_ _) | go_size))⟩


theorem ifEnd (r : Int) (b : ByteArray) (e k : Bool) (w : World) (hb : b.size ≤ maxLen) (hb' : b.size ≤ 281474976710656) :
    Calls Tryz.prog 240 #[.agg #[.int .i64 r, .string b, .bool e, .bool k], .func (.func 241) #[.agg #[.int .i64 r, .string b, .bool e, .bool k]] #[]] w fun x w' => x = .returned (if okB r b k then .agg #[.int .i64 r, .string b, .bool true, .bool k] else .agg #[.int .i64 0, .string ⟨#[]⟩, .bool false, .bool false]) ∧ Below w.heap.size w w' := by
  cases hv : okB r b k
  · go_enter Tryz.func240, Tryz.ntmps240
    go_wp2_with fail
    refine (right r b e k _ hb).mono ?_; rw [hv]; rintro x w1 ⟨rfl, hb1⟩; have hz1 := hb1.size; (try simp at hz1); have hc1 := fun o => hb1.cell (p := ⟨w.heap.size, o, none⟩) (by first | (simp; done) | (simp; omega) | omega); have hf1 := fun o => hb1.frozen (p := ⟨w.heap.size, o, none⟩) (by first | (simp; done) | (simp; omega) | omega); have hcn1 := fun o => hb1.cell (p := ⟨w.heap.size + 1, o, none⟩) (by first | (simp; done) | (simp; omega) | omega); have hfn1 := fun o => hb1.frozen (p := ⟨w.heap.size + 1, o, none⟩) (by first | (simp; done) | (simp; omega) | omega)
    go_wp2_with fail
    refine bodyPost_ret (v := .agg #[.int .i64 0, .string ⟨#[]⟩, .bool false, .bool false]) (by simp [results, Tryz.results240, go_sem, *]) rfl ?_
    exact ⟨rfl, (by repeat' (first | (with_reducible exact Below.refl _ _) | (with_reducible refine Below.drew ?_) | (with_reducible refine bo_drewN _ ?_) | (with_reducible refine bo_alloc ?_ _) | (refine bchain ?_ (by with_reducible assumption)) | (with_reducible refine Below.setCell ?_ ?_ _) | go_size))⟩
  · go_enter Tryz.func240, Tryz.ntmps240
    go_wp2_with fail
    refine (right r b e k _ hb).mono ?_; rw [hv]; rintro x w1 ⟨rfl, hb1⟩; have hz1 := hb1.size; (try simp at hz1); have hc1 := fun o => hb1.cell (p := ⟨w.heap.size, o, none⟩) (by first | (simp; done) | (simp; omega) | omega); have hf1 := fun o => hb1.frozen (p := ⟨w.heap.size, o, none⟩) (by first | (simp; done) | (simp; omega) | omega); have hcn1 := fun o => hb1.cell (p := ⟨w.heap.size + 1, o, none⟩) (by first | (simp; done) | (simp; omega) | omega); have hfn1 := fun o => hb1.frozen (p := ⟨w.heap.size + 1, o, none⟩) (by first | (simp; done) | (simp; omega) | omega)
    go_wp2_with fail
    refine (endP r b e k _ hb').mono ?_; rintro x w2 ⟨rfl, hb2⟩; have hz2 := hb2.size; (try simp at hz2); have hc2 := fun o => hb2.cell (p := ⟨w.heap.size, o, none⟩) (by first | (simp; done) | (simp; omega) | omega); have hf2 := fun o => hb2.frozen (p := ⟨w.heap.size, o, none⟩) (by first | (simp; done) | (simp; omega) | omega); have hcn2 := fun o => hb2.cell (p := ⟨w.heap.size + 1, o, none⟩) (by first | (simp; done) | (simp; omega) | omega); have hfn2 := fun o => hb2.frozen (p := ⟨w.heap.size + 1, o, none⟩) (by first | (simp; done) | (simp; omega) | omega)
    go_wp2_with fail
    refine bodyPost_ret (v := .agg #[.int .i64 r, .string b, .bool true, .bool k]) (by simp [results, Tryz.results240, go_sem, *]) rfl ?_
    exact ⟨rfl, (by repeat' (first | (with_reducible exact Below.refl _ _) | (with_reducible refine Below.drew ?_) | (with_reducible refine bo_drewN _ ?_) | (with_reducible refine bo_alloc ?_ _) | (refine bchain ?_ (by with_reducible assumption)) | (with_reducible refine Below.setCell ?_ ?_ _) | go_size))⟩

theorem implClosed0 (r : Int) (b : ByteArray) (e k : Bool) (w : World) (hb : b.size ≤ maxLen) (hb' : b.size ≤ 281474976710656) :
    Calls Tryz.prog 217 #[.agg #[.int .i64 r, .string b, .bool e, .bool k]] w fun x w' => x = .returned (if okB r b k then .agg #[.int .i64 r, .string b, .bool true, .bool k] else .agg #[.int .i64 0, .string ⟨#[]⟩, .bool false, .bool false]) ∧ Below w.heap.size w w' := by
  cases hv : okB r b k
  · go_enter Tryz.func217, Tryz.ntmps217
    go_wp2_with fail
    refine (ifEnd r b e k _ hb hb').mono ?_; rw [hv]; rintro x w1 ⟨rfl, hb1⟩; have hz1 := hb1.size; (try simp at hz1); have hc1 := fun o => hb1.cell (p := ⟨w.heap.size, o, none⟩) (by first | (simp; done) | (simp; omega) | omega); have hf1 := fun o => hb1.frozen (p := ⟨w.heap.size, o, none⟩) (by first | (simp; done) | (simp; omega) | omega); have hcn1 := fun o => hb1.cell (p := ⟨w.heap.size + 1, o, none⟩) (by first | (simp; done) | (simp; omega) | omega); have hfn1 := fun o => hb1.frozen (p := ⟨w.heap.size + 1, o, none⟩) (by first | (simp; done) | (simp; omega) | omega)
    go_wp2_with fail
    refine bodyPost_ret (v := .agg #[.int .i64 0, .string ⟨#[]⟩, .bool false, .bool false]) (by simp [results, Tryz.results217, go_sem, *]) rfl ?_
    exact ⟨rfl, (by repeat' (first | (with_reducible exact Below.refl _ _) | (with_reducible refine Below.drew ?_) | (with_reducible refine bo_drewN _ ?_) | (with_reducible refine bo_alloc ?_ _) | (refine bchain ?_ (by with_reducible assumption)) | (with_reducible refine Below.setCell ?_ ?_ _) | go_size))⟩
  · go_enter Tryz.func217, Tryz.ntmps217
    go_wp2_with fail
    refine (ifEnd r b e k _ hb hb').mono ?_; rw [hv]; rintro x w1 ⟨rfl, hb1⟩; have hz1 := hb1.size; (try simp at hz1); have hc1 := fun o => hb1.cell (p := ⟨w.heap.size, o, none⟩) (by first | (simp; done) | (simp; omega) | omega); have hf1 := fun o => hb1.frozen (p := ⟨w.heap.size, o, none⟩) (by first | (simp; done) | (simp; omega) | omega); have hcn1 := fun o => hb1.cell (p := ⟨w.heap.size + 1, o, none⟩) (by first | (simp; done) | (simp; omega) | omega); have hfn1 := fun o => hb1.frozen (p := ⟨w.heap.size + 1, o, none⟩) (by first | (simp; done) | (simp; omega) | omega)
    go_wp2_with fail
    refine bodyPost_ret (v := .agg #[.int .i64 r, .string b, .bool true, .bool k]) (by simp [results, Tryz.results217, go_sem, *]) rfl ?_
    exact ⟨rfl, (by repeat' (first | (with_reducible exact Below.refl _ _) | (with_reducible refine Below.drew ?_) | (with_reducible refine bo_drewN _ ?_) | (with_reducible refine bo_alloc ?_ _) | (refine bchain ?_ (by with_reducible assumption)) | (with_reducible refine Below.setCell ?_ ?_ _) | go_size))⟩

theorem okB_new (r : Int) : okB r ⟨#[]⟩ false = newB r := by
  have h : ((⟨#[]⟩ : ByteArray).size : Int) = 0 := rfl
  simp only [okB, newB, h, Bool.not_false, Bool.true_or, Bool.and_true]
  by_cases h1 : 1 ≤ r <;> by_cases h2 : r ≤ 2000 <;> simp [h1, h2] <;> omega

theorem specNew (r : Int) (w : World) :
    Calls Tryz.prog 156 #[.int .i64 r] w fun x w' => x = .returned (if newB r then .tuple #[.agg #[.int .i64 r, .string ⟨#[]⟩, .bool false, .bool false], .bool true] else .tuple #[.agg #[.int .i64 0, .string ⟨#[]⟩, .bool false, .bool false], .bool false]) ∧ Below w.heap.size w w' := by
  cases hv : newB r
  · have hd : decide (1 ≤ r ∧ r ≤ 2000) = false := hv
    go_enter Tryz.func156, Tryz.ntmps156
    go_wp2_with fail
    refine (in1 _ _ _ _).mono ?_; rw [hd]; rintro x w' ⟨rfl, rfl⟩
    go_wp2_with fail
    refine bodyPost_ret (v := .tuple #[.agg #[.int .i64 0, .string ⟨#[]⟩, .bool false, .bool false], .bool false]) (by simp [results, Tryz.results156, go_sem, *]) rfl ?_
    exact ⟨rfl, (by repeat' (first | (with_reducible exact Below.refl _ _) | (with_reducible refine Below.drew ?_) | (with_reducible refine bo_drewN _ ?_) | (with_reducible refine bo_alloc ?_ _) | (refine bchain ?_ (by with_reducible assumption)) | (with_reducible refine Below.setCell ?_ ?_ _) | go_size))⟩
  · have hd : decide (1 ≤ r ∧ r ≤ 2000) = true := hv
    go_enter Tryz.func156, Tryz.ntmps156
    go_wp2_with fail
    refine (in1 _ _ _ _).mono ?_; rw [hd]; rintro x w' ⟨rfl, rfl⟩
    go_wp2_with fail
    refine bodyPost_ret (v := .tuple #[.agg #[.int .i64 r, .string ⟨#[]⟩, .bool false, .bool false], .bool true]) (by simp [results, Tryz.results156, go_sem, *]) rfl ?_
    exact ⟨rfl, (by repeat' (first | (with_reducible exact Below.refl _ _) | (with_reducible refine Below.drew ?_) | (with_reducible refine bo_drewN _ ?_) | (with_reducible refine bo_alloc ?_ _) | (refine bchain ?_ (by with_reducible assumption)) | (with_reducible refine Below.setCell ?_ ?_ _) | go_size))⟩

theorem implNew (r : Int) (w : World) :
    Calls Tryz.prog 239 #[.int .i64 r] w fun x w' => x = .returned (if newB r then .tuple #[.agg #[.int .i64 r, .string ⟨#[]⟩, .bool false, .bool false], .bool true] else .tuple #[.agg #[.int .i64 0, .string ⟨#[]⟩, .bool false, .bool false], .bool false]) ∧ Below w.heap.size w w' := by
  have hn := okB_new r
  cases hv : newB r
  · go_enter Tryz.func239, Tryz.ntmps239
    go_wp2_with fail
    refine (right r ⟨#[]⟩ false false _ empty_le).mono ?_; rw [hn, hv]; rintro x w1 ⟨rfl, hb1⟩; have hz1 := hb1.size; (try simp at hz1); have hc1 := fun o => hb1.cell (p := ⟨w.heap.size, o, none⟩) (by first | (simp; done) | (simp; omega) | omega); have hf1 := fun o => hb1.frozen (p := ⟨w.heap.size, o, none⟩) (by first | (simp; done) | (simp; omega) | omega); have hcn1 := fun o => hb1.cell (p := ⟨w.heap.size + 1, o, none⟩) (by first | (simp; done) | (simp; omega) | omega); have hfn1 := fun o => hb1.frozen (p := ⟨w.heap.size + 1, o, none⟩) (by first | (simp; done) | (simp; omega) | omega)
    go_wp2_with fail
    refine bodyPost_ret (v := .tuple #[.agg #[.int .i64 0, .string ⟨#[]⟩, .bool false, .bool false], .bool false]) (by simp [results, Tryz.results239, go_sem, *]) rfl ?_
    exact ⟨rfl, (by repeat' (first | (with_reducible exact Below.refl _ _) | (with_reducible refine Below.drew ?_) | (with_reducible refine bo_drewN _ ?_) | (with_reducible refine bo_alloc ?_ _) | (refine bchain ?_ (by with_reducible assumption)) | (with_reducible refine Below.setCell ?_ ?_ _) | go_size))⟩
  · go_enter Tryz.func239, Tryz.ntmps239
    go_wp2_with fail
    refine (right r ⟨#[]⟩ false false _ empty_le).mono ?_; rw [hn, hv]; rintro x w1 ⟨rfl, hb1⟩; have hz1 := hb1.size; (try simp at hz1); have hc1 := fun o => hb1.cell (p := ⟨w.heap.size, o, none⟩) (by first | (simp; done) | (simp; omega) | omega); have hf1 := fun o => hb1.frozen (p := ⟨w.heap.size, o, none⟩) (by first | (simp; done) | (simp; omega) | omega); have hcn1 := fun o => hb1.cell (p := ⟨w.heap.size + 1, o, none⟩) (by first | (simp; done) | (simp; omega) | omega); have hfn1 := fun o => hb1.frozen (p := ⟨w.heap.size + 1, o, none⟩) (by first | (simp; done) | (simp; omega) | omega)
    go_wp2_with fail
    refine bodyPost_ret (v := .tuple #[.agg #[.int .i64 r, .string ⟨#[]⟩, .bool false, .bool false], .bool true]) (by simp [results, Tryz.results239, go_sem, *]) rfl ?_
    exact ⟨rfl, (by repeat' (first | (with_reducible exact Below.refl _ _) | (with_reducible refine Below.drew ?_) | (with_reducible refine bo_drewN _ ?_) | (with_reducible refine bo_alloc ?_ _) | (refine bchain ?_ (by with_reducible assumption)) | (with_reducible refine Below.setCell ?_ ?_ _) | go_size))⟩
end Go.Proofs.YtllaeakeaabiaaaGreat
/- Rows of int64: copied, held against each other, marked, read again, counted. -/
namespace Go.Proofs.YtllaeakeaabiaaaGreat
open Go.RowKit
set_option maxRecDepth 100000
set_option linter.unusedSimpArgs false
set_option linter.unusedVariables false

def iv (L : List Int) : List Value := L.map (Value.int .i64)
theorem iv_len (L : List Int) : (iv L).length = L.length := by simp [iv]
theorem iv_get (L : List Int) (k : Nat) (h : k < L.length) : (iv L)[k]? = some (.int .i64 L[k]) := by simp [iv, h]

/-- n marks, from k on. -/
def mk (k : Int) (n : Nat) : List Value := (List.range n).map fun (j : Nat) => Value.int .i64 (k + j)
theorem mk_len (k : Int) (n : Nat) : (mk k n).length = n := by simp [mk]
theorem mk_get (k : Int) (n j : Nat) (h : j < n) : (mk k n)[j]? = some (.int .i64 (k + j)) := by simp [mk, h]

end Go.Proofs.YtllaeakeaabiaaaGreat
/- Chapter 8's model: Granted, Used, Moved, Fits. -/
namespace Go.Proofs.YtllaeakeaabiaaaGreat
open Go.RowKit
set_option maxRecDepth 100000
set_option linter.unusedSimpArgs false
set_option linter.unusedVariables false
theorem specWin (x : Int) (w : World) : Calls Tryz.prog 50 #[.int .i64 x] w fun e w' => e = .returned (.bool (winB x)) ∧ w' = w := by
  go_enter Tryz.func50, Tryz.ntmps50
  go_wp2_with fail
  refine (specIn _ _ _ _).mono ?_; rintro e w1 ⟨rfl, hsame⟩; obtain rfl := hsame.symm; clear hsame
  go_wp2_with fail
  go_ret
  exact ⟨rfl, rfl⟩
theorem specGranted (x n : Int) (w : World) : Calls Tryz.prog 102 #[.int .i64 x, .int .i64 n] w fun e w' => e = .returned (.tuple #[.int .i64 (grV x n).1, .bool (grV x n).2]) ∧ w' = w := by
  cases hx : winB x
  · have hv : grV x n = (x, false) := by unfold grV; rw [if_neg (by rw [hx]; simp)]
    rw [hv]
    go_enter Tryz.func102, Tryz.ntmps102
    go_wp2_with fail
    refine (specWin _ _).mono ?_; rw [hx]; rintro e w1 ⟨rfl, hsame⟩; obtain rfl := hsame.symm; clear hsame
    go_wp2_with fail
    go_ret2
    exact ⟨rfl, rfl⟩
  obtain ⟨x0, x1⟩ := winB_true hx
  cases hn : inB n 1 16777215
  · have hv : grV x n = (x, false) := by unfold grV; rw [if_neg (by rw [hn]; simp)]
    rw [hv]
    go_enter Tryz.func102, Tryz.ntmps102
    go_wp2_with fail
    refine (specWin _ _).mono ?_; rw [hx]; rintro e w1 ⟨rfl, hsame⟩; obtain rfl := hsame.symm; clear hsame
    go_wp2_with fail
    refine (specIn _ _ _ _).mono ?_; rw [hn]; rintro e w1 ⟨rfl, hsame⟩; obtain rfl := hsame.symm; clear hsame
    go_wp2_with fail
    go_ret2
    exact ⟨rfl, rfl⟩
  obtain ⟨n0, n1⟩ := inB_true hn
  by_cases hs : x + n ≤ 16777215
  · have hv : grV x n = (x + n, true) := by unfold grV; rw [if_pos ⟨hx, hn, hs⟩]
    rw [hv]
    go_enter Tryz.func102, Tryz.ntmps102
    go_wp2_with fail
    refine (specWin _ _).mono ?_; rw [hx]; rintro e w1 ⟨rfl, hsame⟩; obtain rfl := hsame.symm; clear hsame
    go_wp2_with fail
    refine (specIn _ _ _ _).mono ?_; rw [hn]; rintro e w1 ⟨rfl, hsame⟩; obtain rfl := hsame.symm; clear hsame
    go_wp2_with fail
    go_ret2
    exact ⟨rfl, rfl⟩
  · have hv : grV x n = (x, false) := by unfold grV; rw [if_neg (fun c => hs c.2.2)]
    rw [hv]
    go_enter Tryz.func102, Tryz.ntmps102
    go_wp2_with fail
    refine (specWin _ _).mono ?_; rw [hx]; rintro e w1 ⟨rfl, hsame⟩; obtain rfl := hsame.symm; clear hsame
    go_wp2_with fail
    refine (specIn _ _ _ _).mono ?_; rw [hn]; rintro e w1 ⟨rfl, hsame⟩; obtain rfl := hsame.symm; clear hsame
    go_wp2_with fail
    go_ret2
    exact ⟨rfl, rfl⟩
theorem specMoved (x o f : Int) (w : World) : Calls Tryz.prog 101 #[.int .i64 x, .int .i64 o, .int .i64 f] w fun e w' => e = .returned (.tuple #[.int .i64 (mvV x o f).1, .bool (mvV x o f).2]) ∧ w' = w := by
  cases hx : winB x
  · have hv : mvV x o f = (x, false) := by unfold mvV; rw [if_neg (by rw [hx]; simp)]
    rw [hv]
    go_enter Tryz.func101, Tryz.ntmps101
    go_wp2_with fail
    refine (specWin _ _).mono ?_; rw [hx]; rintro e w1 ⟨rfl, hsame⟩; obtain rfl := hsame.symm; clear hsame
    go_wp2_with fail
    go_ret2
    exact ⟨rfl, rfl⟩
  obtain ⟨x0, x1⟩ := winB_true hx
  cases ho : inB o 0 16777215
  · have hv : mvV x o f = (x, false) := by unfold mvV; rw [if_neg (by rw [ho]; simp)]
    rw [hv]
    go_enter Tryz.func101, Tryz.ntmps101
    go_wp2_with fail
    refine (specWin _ _).mono ?_; rw [hx]; rintro e w1 ⟨rfl, hsame⟩; obtain rfl := hsame.symm; clear hsame
    go_wp2_with fail
    refine (specIn _ _ _ _).mono ?_; rw [ho]; rintro e w1 ⟨rfl, hsame⟩; obtain rfl := hsame.symm; clear hsame
    go_wp2_with fail
    go_ret2
    exact ⟨rfl, rfl⟩
  obtain ⟨o0, o1⟩ := inB_true ho
  cases hf : inB f 0 16777215
  · have hv : mvV x o f = (x, false) := by unfold mvV; rw [if_neg (by rw [hf]; simp)]
    rw [hv]
    go_enter Tryz.func101, Tryz.ntmps101
    go_wp2_with fail
    refine (specWin _ _).mono ?_; rw [hx]; rintro e w1 ⟨rfl, hsame⟩; obtain rfl := hsame.symm; clear hsame
    go_wp2_with fail
    refine (specIn _ _ _ _).mono ?_; rw [ho]; rintro e w1 ⟨rfl, hsame⟩; obtain rfl := hsame.symm; clear hsame
    go_wp2_with fail
    refine (specIn _ _ _ _).mono ?_; rw [hf]; rintro e w1 ⟨rfl, hsame⟩; obtain rfl := hsame.symm; clear hsame
    go_wp2_with fail
    go_ret2
    exact ⟨rfl, rfl⟩
  obtain ⟨f0, f1⟩ := inB_true hf
  cases hm : winB (x + f - o)
  · have hv : mvV x o f = (x, false) := by unfold mvV; rw [if_neg (by rw [hm]; simp)]
    rw [hv]
    go_enter Tryz.func101, Tryz.ntmps101
    go_wp2_with fail
    refine (specWin _ _).mono ?_; rw [hx]; rintro e w1 ⟨rfl, hsame⟩; obtain rfl := hsame.symm; clear hsame
    go_wp2_with fail
    refine (specIn _ _ _ _).mono ?_; rw [ho]; rintro e w1 ⟨rfl, hsame⟩; obtain rfl := hsame.symm; clear hsame
    go_wp2_with fail
    refine (specIn _ _ _ _).mono ?_; rw [hf]; rintro e w1 ⟨rfl, hsame⟩; obtain rfl := hsame.symm; clear hsame
    go_wp2_with fail
    refine (specWin _ _).mono ?_; rw [hm]; rintro e w1 ⟨rfl, hsame⟩; obtain rfl := hsame.symm; clear hsame
    go_wp2_with fail
    go_ret2
    exact ⟨rfl, rfl⟩
  · have hv : mvV x o f = (x + f - o, true) := by unfold mvV; rw [if_pos ⟨hx, ho, hf, hm⟩]
    rw [hv]
    go_enter Tryz.func101, Tryz.ntmps101
    go_wp2_with fail
    refine (specWin _ _).mono ?_; rw [hx]; rintro e w1 ⟨rfl, hsame⟩; obtain rfl := hsame.symm; clear hsame
    go_wp2_with fail
    refine (specIn _ _ _ _).mono ?_; rw [ho]; rintro e w1 ⟨rfl, hsame⟩; obtain rfl := hsame.symm; clear hsame
    go_wp2_with fail
    refine (specIn _ _ _ _).mono ?_; rw [hf]; rintro e w1 ⟨rfl, hsame⟩; obtain rfl := hsame.symm; clear hsame
    go_wp2_with fail
    refine (specWin _ _).mono ?_; rw [hm]; rintro e w1 ⟨rfl, hsame⟩; obtain rfl := hsame.symm; clear hsame
    go_wp2_with fail
    go_ret2
    exact ⟨rfl, rfl⟩
theorem specFits (c s n : Int) (w : World) : Calls Tryz.prog 84 #[.int .i64 c, .int .i64 s, .int .i64 n] w fun e w' => e = .returned (.int .i64 (ftV c s n)) ∧ w' = w := by
  cases hc : winB c
  · have hv : ftV c s n = 0 := by unfold ftV; rw [if_neg (by rw [hc]; simp)]
    rw [hv]
    go_enter Tryz.func84, Tryz.ntmps84
    go_wp2_with fail
    refine (specWin _ _).mono ?_; rw [hc]; rintro e w1 ⟨rfl, hsame⟩; obtain rfl := hsame.symm; clear hsame
    go_wp2_with fail
    go_ret
    exact ⟨rfl, rfl⟩
  cases hs : winB s
  · have hv : ftV c s n = 0 := by unfold ftV; rw [if_neg (by rw [hs]; simp)]
    rw [hv]
    go_enter Tryz.func84, Tryz.ntmps84
    go_wp2_with fail
    refine (specWin _ _).mono ?_; rw [hc]; rintro e w1 ⟨rfl, hsame⟩; obtain rfl := hsame.symm; clear hsame
    go_wp2_with fail
    refine (specWin _ _).mono ?_; rw [hs]; rintro e w1 ⟨rfl, hsame⟩; obtain rfl := hsame.symm; clear hsame
    go_wp2_with fail
    go_ret
    exact ⟨rfl, rfl⟩
  by_cases hn : n < 0
  · have hv : ftV c s n = 0 := by unfold ftV; rw [if_neg (by omega)]
    rw [hv]
    go_enter Tryz.func84, Tryz.ntmps84
    go_wp2_with fail
    refine (specWin _ _).mono ?_; rw [hc]; rintro e w1 ⟨rfl, hsame⟩; obtain rfl := hsame.symm; clear hsame
    go_wp2_with fail
    refine (specWin _ _).mono ?_; rw [hs]; rintro e w1 ⟨rfl, hsame⟩; obtain rfl := hsame.symm; clear hsame
    go_wp2_with fail
    go_ret
    exact ⟨rfl, rfl⟩
  · have hv : ftV c s n = mxV 0 (mnV n (mnV c s)) := by unfold ftV; rw [if_pos ⟨hc, hs, by omega⟩]
    rw [hv]
    have m1 := fun w => specMin c s w
    have m2 := fun w => specMin n (mnV c s) w
    have m3 := fun w => specMax 0 (mnV n (mnV c s)) w
    have e1 : (if c < s then c else s) = mnV c s := rfl
    have e2 : (if n < mnV c s then n else mnV c s) = mnV n (mnV c s) := rfl
    have e3 : (if (0 : Int) > mnV n (mnV c s) then 0 else mnV n (mnV c s)) = mxV 0 (mnV n (mnV c s)) := rfl
    rw [e1] at m1
    rw [e2] at m2
    rw [e3] at m3
    clear e1 e2 e3
    generalize mxV 0 (mnV n (mnV c s)) = R at *
    generalize mnV n (mnV c s) = P at *
    generalize mnV c s = Q at *
    go_enter Tryz.func84, Tryz.ntmps84
    go_wp2_with fail
    refine (specWin _ _).mono ?_; rw [hc]; rintro e w1 ⟨rfl, hsame⟩; obtain rfl := hsame.symm; clear hsame
    go_wp2_with fail
    refine (specWin _ _).mono ?_; rw [hs]; rintro e w1 ⟨rfl, hsame⟩; obtain rfl := hsame.symm; clear hsame
    go_wp2_with fail
    refine (m1 _).mono ?_; rintro e w1 ⟨rfl, hsame⟩; obtain rfl := hsame.symm; clear hsame
    go_wp2_with fail
    refine (m2 _).mono ?_; rintro e w1 ⟨rfl, hsame⟩; obtain rfl := hsame.symm; clear hsame
    go_wp2_with fail
    refine (m3 _).mono ?_; rintro e w1 ⟨rfl, hsame⟩; obtain rfl := hsame.symm; clear hsame
    go_wp2_with fail
    go_ret
    exact ⟨rfl, rfl⟩
end Go.Proofs.YtllaeakeaabiaaaGreat
/- Chapter 8's program: Granted, Used, Moved, Fits; what a window becomes is handed on as a method expression. -/
namespace Go.Proofs.YtllaeakeaabiaaaGreat
open Go.RowKit
set_option maxRecDepth 100000
set_option linter.unusedSimpArgs false
set_option linter.unusedVariables false
theorem implWin (x : Int) (w : World) : Calls Tryz.prog 117 #[.int .i64 x] w fun e w' => e = .returned (.bool (winB x)) ∧ w' = w := by
  go_enter Tryz.func117, Tryz.ntmps117
  go_wp2_with fail
  refine (implWithin _ _ _ _).mono ?_; rintro e w1 ⟨rfl, hsame⟩; obtain rfl := hsame.symm; clear hsame
  go_wp2_with fail
  go_ret
  exact ⟨rfl, rfl⟩
/-- What a change leaves: the window behind it, where both are windows. -/
def chV (x y : Int) : Int × Bool := if winB x = true ∧ winB y = true then (y, true) else (x, false)
theorem implMore (x n : Int) (w : World) (h1 : -16777215 ≤ x) (h2 : x ≤ 16777215) (h3 : -16777215 ≤ n) (h4 : n ≤ 16777215) : Calls Tryz.prog 218 #[.int .i64 x, .int .i64 n] w fun e w' => e = .returned (.int .i64 (x + n)) ∧ w' = w := by
  go_enter Tryz.func218, Tryz.ntmps218
  go_wp2_with fail
  go_ret
  exact ⟨rfl, rfl⟩
theorem implMoreCh (x n : Int) (w : World) (h3 : -16777215 ≤ n) (h4 : n ≤ 16777215) : Calls Tryz.prog 185 #[.int .i64 x, .int .i64 n, .func (.func 218) #[] #[]] w fun e w' => e = .returned (.tuple #[.int .i64 (chV x (x + n)).1, .bool (chV x (x + n)).2]) ∧ w' = w := by
  cases hx : winB x
  · have hv : chV x (x + n) = (x, false) := by unfold chV; rw [if_neg (by rw [hx]; simp)]
    rw [hv]
    go_enter Tryz.func185, Tryz.ntmps185
    go_wp2_with fail
    refine (implWin _ _).mono ?_; rw [hx]; rintro e w1 ⟨rfl, hsame⟩; obtain rfl := hsame.symm; clear hsame
    go_wp2_with fail
    go_ret2
    exact ⟨rfl, rfl⟩
  obtain ⟨x0, x1⟩ := winB_true hx
  cases hy : winB (x + n)
  · have hv : chV x (x + n) = (x, false) := by unfold chV; rw [if_neg (by rw [hy]; simp)]
    rw [hv]
    go_enter Tryz.func185, Tryz.ntmps185
    go_wp2_with fail
    refine (implWin _ _).mono ?_; rw [hx]; rintro e w1 ⟨rfl, hsame⟩; obtain rfl := hsame.symm; clear hsame
    go_wp2_with fail
    refine (implMore _ _ _ x0 x1 h3 h4).mono ?_; rintro e w1 ⟨rfl, hsame⟩; obtain rfl := hsame.symm; clear hsame
    go_wp2_with fail
    refine (implWin _ _).mono ?_; rw [hy]; rintro e w1 ⟨rfl, hsame⟩; obtain rfl := hsame.symm; clear hsame
    go_wp2_with fail
    go_ret2
    exact ⟨rfl, rfl⟩
  · have hv : chV x (x + n) = (x + n, true) := by unfold chV; rw [if_pos ⟨hx, hy⟩]
    rw [hv]
    go_enter Tryz.func185, Tryz.ntmps185
    go_wp2_with fail
    refine (implWin _ _).mono ?_; rw [hx]; rintro e w1 ⟨rfl, hsame⟩; obtain rfl := hsame.symm; clear hsame
    go_wp2_with fail
    refine (implMore _ _ _ x0 x1 h3 h4).mono ?_; rintro e w1 ⟨rfl, hsame⟩; obtain rfl := hsame.symm; clear hsame
    go_wp2_with fail
    refine (implWin _ _).mono ?_; rw [hy]; rintro e w1 ⟨rfl, hsame⟩; obtain rfl := hsame.symm; clear hsame
    go_wp2_with fail
    go_ret2
    exact ⟨rfl, rfl⟩
theorem implLess (x n : Int) (w : World) (h1 : -16777215 ≤ x) (h2 : x ≤ 16777215) (h3 : 0 ≤ n) (h4 : n ≤ x) : Calls Tryz.prog 186 #[.int .i64 x, .int .i64 n] w fun e w' => e = .returned (.int .i64 (x - n)) ∧ w' = w := by
  go_enter Tryz.func186, Tryz.ntmps186
  go_wp2_with fail
  go_ret
  exact ⟨rfl, rfl⟩
theorem implLessCh (x n : Int) (w : World) (h3 : 0 ≤ n) (h4 : n ≤ x) : Calls Tryz.prog 185 #[.int .i64 x, .int .i64 n, .func (.func 186) #[] #[]] w fun e w' => e = .returned (.tuple #[.int .i64 (chV x (x - n)).1, .bool (chV x (x - n)).2]) ∧ w' = w := by
  cases hx : winB x
  · have hv : chV x (x - n) = (x, false) := by unfold chV; rw [if_neg (by rw [hx]; simp)]
    rw [hv]
    go_enter Tryz.func185, Tryz.ntmps185
    go_wp2_with fail
    refine (implWin _ _).mono ?_; rw [hx]; rintro e w1 ⟨rfl, hsame⟩; obtain rfl := hsame.symm; clear hsame
    go_wp2_with fail
    go_ret2
    exact ⟨rfl, rfl⟩
  obtain ⟨x0, x1⟩ := winB_true hx
  cases hy : winB (x - n)
  · have hv : chV x (x - n) = (x, false) := by unfold chV; rw [if_neg (by rw [hy]; simp)]
    rw [hv]
    go_enter Tryz.func185, Tryz.ntmps185
    go_wp2_with fail
    refine (implWin _ _).mono ?_; rw [hx]; rintro e w1 ⟨rfl, hsame⟩; obtain rfl := hsame.symm; clear hsame
    go_wp2_with fail
    refine (implLess _ _ _ x0 x1 h3 h4).mono ?_; rintro e w1 ⟨rfl, hsame⟩; obtain rfl := hsame.symm; clear hsame
    go_wp2_with fail
    refine (implWin _ _).mono ?_; rw [hy]; rintro e w1 ⟨rfl, hsame⟩; obtain rfl := hsame.symm; clear hsame
    go_wp2_with fail
    go_ret2
    exact ⟨rfl, rfl⟩
  · have hv : chV x (x - n) = (x - n, true) := by unfold chV; rw [if_pos ⟨hx, hy⟩]
    rw [hv]
    go_enter Tryz.func185, Tryz.ntmps185
    go_wp2_with fail
    refine (implWin _ _).mono ?_; rw [hx]; rintro e w1 ⟨rfl, hsame⟩; obtain rfl := hsame.symm; clear hsame
    go_wp2_with fail
    refine (implLess _ _ _ x0 x1 h3 h4).mono ?_; rintro e w1 ⟨rfl, hsame⟩; obtain rfl := hsame.symm; clear hsame
    go_wp2_with fail
    refine (implWin _ _).mono ?_; rw [hy]; rintro e w1 ⟨rfl, hsame⟩; obtain rfl := hsame.symm; clear hsame
    go_wp2_with fail
    go_ret2
    exact ⟨rfl, rfl⟩
theorem implGranted (x n : Int) (w : World) : Calls Tryz.prog 180 #[.int .i64 x, .int .i64 n] w fun e w' => e = .returned (.tuple #[.int .i64 (grV x n).1, .bool (grV x n).2]) ∧ Below w.heap.size w w' := by
  cases hn : inB n 1 16777215
  · have hv : grV x n = (x, false) := by unfold grV; rw [if_neg (by rw [hn]; simp)]
    rw [hv]
    go_enter Tryz.func180, Tryz.ntmps180
    go_wp2_with fail
    refine (implWithin _ _ _ _).mono ?_; rw [hn]; rintro e w1 ⟨rfl, hsame⟩; obtain rfl := hsame.symm; clear hsame
    go_wp2_with fail
    go_ret2
    exact ⟨rfl, Below.refl _ _⟩
  obtain ⟨n0, n1⟩ := inB_true hn
  have hv : grV x n = chV x (x + n) := by
    unfold grV chV
    cases hx : winB x
    · rw [if_neg (by simp), if_neg (by simp)]
    · obtain ⟨x0, x1⟩ := winB_true hx
      by_cases hs : x + n ≤ 16777215
      · rw [if_pos ⟨rfl, hn, hs⟩, if_pos ⟨rfl, winB_of (by omega) hs⟩]
      · rw [if_neg (fun c => hs c.2.2), if_neg (fun c => hs (winB_true c.2).2)]
  rw [hv]
  clear hv
  go_enter Tryz.func180, Tryz.ntmps180
  go_wp2_with fail
  refine (implWithin _ _ _ _).mono ?_; rw [hn]; rintro e w1 ⟨rfl, hsame⟩; obtain rfl := hsame.symm; clear hsame
  go_wp2_with fail
  refine (implMoreCh _ _ _ (by omega) (by omega)).mono ?_; rintro e w1 ⟨rfl, hsame⟩; obtain rfl := hsame.symm; clear hsame
  go_wp2_with fail
  go_ret2
  exact ⟨rfl, Below.refl _ _⟩
theorem implUsed (x n : Int) (w : World) : Calls Tryz.prog 146 #[.int .i64 x, .int .i64 n] w fun e w' => e = .returned (.tuple #[.int .i64 (usV x n).1, .bool (usV x n).2]) ∧ Below w.heap.size w w' := by
  cases hn : inB n 0 x
  · have hv : usV x n = (x, false) := by unfold usV; rw [if_neg (fun c => inB_false hn c.2)]
    rw [hv]
    go_enter Tryz.func146, Tryz.ntmps146
    go_wp2_with fail
    refine (implWithin _ _ _ _).mono ?_; rw [hn]; rintro e w1 ⟨rfl, hsame⟩; obtain rfl := hsame.symm; clear hsame
    go_wp2_with fail
    go_ret2
    exact ⟨rfl, Below.refl _ _⟩
  obtain ⟨n0, n1⟩ := inB_true hn
  have hv : usV x n = chV x (x - n) := by
    unfold usV chV
    cases hx : winB x
    · rw [if_neg (by simp), if_neg (by simp)]
    · obtain ⟨x0, x1⟩ := winB_true hx
      rw [if_pos ⟨rfl, n0, n1⟩, if_pos ⟨rfl, winB_of (by omega) (by omega)⟩]
  rw [hv]
  clear hv
  go_enter Tryz.func146, Tryz.ntmps146
  go_wp2_with fail
  refine (implWithin _ _ _ _).mono ?_; rw [hn]; rintro e w1 ⟨rfl, hsame⟩; obtain rfl := hsame.symm; clear hsame
  go_wp2_with fail
  refine (implLessCh _ _ _ n0 n1).mono ?_; rintro e w1 ⟨rfl, hsame⟩; obtain rfl := hsame.symm; clear hsame
  go_wp2_with fail
  go_ret2
  exact ⟨rfl, Below.refl _ _⟩
theorem implMoved (x o f : Int) (w : World) : Calls Tryz.prog 178 #[.int .i64 x, .int .i64 o, .int .i64 f] w fun e w' => e = .returned (.tuple #[.int .i64 (mvV x o f).1, .bool (mvV x o f).2]) ∧ Below w.heap.size w w' := by
  cases ho : inB o 0 16777215
  · have hv : mvV x o f = (x, false) := by unfold mvV; rw [if_neg (by rw [ho]; simp)]
    rw [hv]
    go_enter Tryz.func178, Tryz.ntmps178
    go_wp2_with fail
    refine (implWithin _ _ _ _).mono ?_; rw [ho]; rintro e w1 ⟨rfl, hsame⟩; obtain rfl := hsame.symm; clear hsame
    go_wp2_with fail
    go_ret2
    exact ⟨rfl, Below.refl _ _⟩
  obtain ⟨o0, o1⟩ := inB_true ho
  cases hf : inB f 0 16777215
  · have hv : mvV x o f = (x, false) := by unfold mvV; rw [if_neg (by rw [hf]; simp)]
    rw [hv]
    go_enter Tryz.func178, Tryz.ntmps178
    go_wp2_with fail
    refine (implWithin _ _ _ _).mono ?_; rw [ho]; rintro e w1 ⟨rfl, hsame⟩; obtain rfl := hsame.symm; clear hsame
    go_wp2_with fail
    refine (implWithin _ _ _ _).mono ?_; rw [hf]; rintro e w1 ⟨rfl, hsame⟩; obtain rfl := hsame.symm; clear hsame
    go_wp2_with fail
    go_ret2
    exact ⟨rfl, Below.refl _ _⟩
  obtain ⟨f0, f1⟩ := inB_true hf
  have hv : mvV x o f = chV x (x + (f - o)) := by
    unfold mvV chV
    have e : x + (f - o) = x + f - o := by omega
    rw [e, ho, hf]
    simp
  rw [hv]
  clear hv
  go_enter Tryz.func178, Tryz.ntmps178
  go_wp2_with fail
  refine (implWithin _ _ _ _).mono ?_; rw [ho]; rintro e w1 ⟨rfl, hsame⟩; obtain rfl := hsame.symm; clear hsame
  go_wp2_with fail
  refine (implWithin _ _ _ _).mono ?_; rw [hf]; rintro e w1 ⟨rfl, hsame⟩; obtain rfl := hsame.symm; clear hsame
  go_wp2_with fail
  refine (implMoreCh _ _ _ (by omega) (by omega)).mono ?_; rintro e w1 ⟨rfl, hsame⟩; obtain rfl := hsame.symm; clear hsame
  go_wp2_with fail
  go_ret2
  exact ⟨rfl, Below.refl _ _⟩
theorem implFits (c s n : Int) (w : World) : Calls Tryz.prog 144 #[.int .i64 c, .int .i64 s, .int .i64 n] w fun e w' => e = .returned (.int .i64 (ftV c s n)) ∧ Below w.heap.size w w' := by
  cases hc : winB c
  · have hv : ftV c s n = 0 := by unfold ftV; rw [if_neg (by rw [hc]; simp)]
    rw [hv]
    go_enter Tryz.func144, Tryz.ntmps144
    go_wp2_with fail
    refine (implWin _ _).mono ?_; rw [hc]; rintro e w1 ⟨rfl, hsame⟩; obtain rfl := hsame.symm; clear hsame
    go_wp2_with fail
    go_ret
    exact ⟨rfl, Below.refl _ _⟩
  cases hs : winB s
  · have hv : ftV c s n = 0 := by unfold ftV; rw [if_neg (by rw [hs]; simp)]
    rw [hv]
    go_enter Tryz.func144, Tryz.ntmps144
    go_wp2_with fail
    refine (implWin _ _).mono ?_; rw [hc]; rintro e w1 ⟨rfl, hsame⟩; obtain rfl := hsame.symm; clear hsame
    go_wp2_with fail
    refine (implWin _ _).mono ?_; rw [hs]; rintro e w1 ⟨rfl, hsame⟩; obtain rfl := hsame.symm; clear hsame
    go_wp2_with fail
    go_ret
    exact ⟨rfl, Below.refl _ _⟩
  have hv : ftV c s n = mxV 0 (mnV n (mnV c s)) := by
    unfold ftV
    by_cases hn : 0 ≤ n
    · rw [if_pos ⟨hc, hs, hn⟩]
    · rw [if_neg (by omega)]; unfold mxV mnV; repeat' split <;> omega
  rw [hv]
  clear hv
  have e2 : (if s < (if c < n then c else n) then s else (if c < n then c else n)) = mnV n (mnV c s) := by unfold mnV; repeat' split <;> omega
  have e3 : (if mnV n (mnV c s) > 0 then mnV n (mnV c s) else 0) = mxV 0 (mnV n (mnV c s)) := by unfold mxV; repeat' split <;> omega
  generalize mxV 0 (mnV n (mnV c s)) = R at *
  generalize mnV n (mnV c s) = P at *
  have m1 : ∀ w, (Builtin.min_ #[2, 2, 2] 2 #[.int .i64 n, .int .i64 c, .int .i64 s]).run Tryz.prog w = .ok (.int .i64 P) w := fun w => by rw [run_min_int3, e2]
  have m2 : ∀ w, (Builtin.max_ #[2, 2] 2 #[.int .i64 0, .int .i64 P]).run Tryz.prog w = .ok (.int .i64 R) w := fun w => by rw [run_max_int2, e3]
  clear e2 e3
  go_enter Tryz.func144, Tryz.ntmps144
  go_wp2_with fail
  refine (implWin _ _).mono ?_; rw [hc]; rintro e w1 ⟨rfl, hsame⟩; obtain rfl := hsame.symm; clear hsame
  go_wp2_with fail
  refine (implWin _ _).mono ?_; rw [hs]; rintro e w1 ⟨rfl, hsame⟩; obtain rfl := hsame.symm; clear hsame
  go_wp2_with fail
  go_ret
  exact ⟨rfl, Below.refl _ _⟩
end Go.Proofs.YtllaeakeaabiaaaGreat
