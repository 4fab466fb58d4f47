/- Several small texts of one level, one behind the other. -/
import Derived.Test.YtfemmnhfllbgjaaGreatDoorQG3
import Derived.Test.YtfemmnhfllbgjaaGreatDoorQG2
import Derived.WalkKit
import Derived.ProofKit
import Derived.OpenShut
import Derived.Lib.SmallJoins
import Derived.Handy
import Derived.Lib.ConvBytes
import Derived.Deep.RegionLaw
import Derived.Deep.DrawnRows
/- Rows of whatever make: a row that is being filled, marks, sums. -/
namespace Go.Proofs.YtfemmnhfllbgjaaGreatDoor
open Go.RowKit
set_option maxRecDepth 100000
set_option linter.unusedSimpArgs false
set_option linter.unusedVariables false

section
variable {D : Type} (E : Shp D)
/-- A new row of as many elements as L has, of which the first k are filled with L's. -/
def Filling (w wr : World) (L : List D) (k : Nat) : Prop :=
  k ≤ L.length ∧ Below w.heap.size w wr ∧ w.heap.size < wr.heap.size ∧ ∃ (ts : List (List Value × D × List Nat)) (R : List Value), ts.map (·.2.1) = L.take k ∧ R.length = (L.length - k) * E.size ∧
    wr.ownsRow 0 E.ty E.size (.slice (some ⟨w.heap.size, 0, none⟩) L.length L.length) L.length (ts.flatMap (·.1) ++ R) ∧
    (∀ t ∈ ts, E.own wr t.1 t.2.1 t.2.2) ∧ (ts.flatMap (·.2.2)).Nodup ∧ ∀ b ∈ ts.flatMap (·.2.2), w.heap.size < b
variable {E}
theorem filling_start {w : World} {M : Array Value} {L : List D} (ho : (w.alloc (.cells M E.ty)).ownsRow w.heap.size E.ty E.size (.slice (some ⟨w.heap.size, 0, none⟩) L.length L.length) L.length M.toList) : Filling E w (w.alloc (.cells M E.ty)) L 0 :=
  ⟨Nat.zero_le _, (Below.refl _ _).alloc (Nat.le_refl _) _, by simp, [], M.toList, by simp, by simpa using ho.1, by simpa using owns_base ho (fun k hk => Nat.zero_le _), by simp, by simp, by simp⟩
theorem filling_step {w wr w1 : World} {L : List D} {k : Nat} {cs : List Value} (h : Filling E w wr L k) (hk : k < L.length) (hb : Below wr.heap.size wr w1) (hd : OwE E w1 wr.heap.size w1.heap.size cs L[k]) :
    (∀ r, r < E.size → ∃ u, w1.cell? ⟨w.heap.size, k * E.size + r, none⟩ = some u) ∧ (∀ j, w1.frozen? ⟨w.heap.size, j, none⟩ = false) ∧ w.heap.size < w1.heap.size ∧ Filling E w (setsFrom w1 w.heap.size (k * E.size) cs) L (k + 1) := by
  obtain ⟨hle, hbw, hlt, ts, R, hts, hR, ho, hE, hnd, hlo⟩ := h
  obtain ⟨b2, hd1, hd2, hd3⟩ := hd
  have ho1 := owns_new ho hb
  have hlen : ∀ t ∈ ts, t.1.length = E.size := fun t ht => E.rd_len (E.own_rd (hE t ht))
  have htl : ts.length = k := by have := congrArg List.length hts; simp at this; omega
  have hfl : (ts.flatMap (fun t : List Value × D × List Nat => t.1)).length = k * E.size := by rw [flat_len _ E.size ts hlen, htl]
  have hcl := E.rd_len (E.own_rd hd1)
  have hsz : (L.length - k) * E.size = E.size + (L.length - (k + 1)) * E.size := by
    rw [show L.length - k = (L.length - (k + 1)) + 1 by omega, Nat.succ_mul]; omega
  obtain ⟨g, cap, e1, hg, _, hgl, _, _, hc, hf⟩ := owns_open ho1 (by omega)
  simp only [Value.slice.injEq, Option.some.injEq, Addr.mk.injEq] at e1
  obtain ⟨⟨rfl, _, _⟩, _, _⟩ := e1
  refine ⟨fun r hr => ?_, hf, by have := hb.size; omega, by omega, ?_, ?_, ts ++ [(cs, L[k], b2)], R.drop E.size, ?_, ?_, ?_, ?_, ?_, ?_⟩
  · have hin : k * E.size + r < (ts.flatMap (fun t : List Value × D × List Nat => t.1) ++ R).length := by rw [List.length_append, hfl, hR]; omega
    exact ⟨_, hc _ _ (List.getElem?_eq_getElem hin)⟩
  · exact setsFrom_below _ (Nat.le_refl _) _ _ _ (hbw.trans (hb.mono hbw.size))
  · rw [setsFrom_size]; have := hb.size; omega
  · rw [List.map_append, hts, List.take_succ_eq_append_getElem hk]; rfl
  · rw [List.length_drop, hR, hsz]; omega
  · have ho2 : w1.ownsRow 0 E.ty E.size (.slice (some ⟨w.heap.size, 0, none⟩) L.length L.length) L.length (ts.flatMap (·.1) ++ R.take E.size ++ R.drop E.size) := by rw [List.append_assoc, List.take_append_drop]; exact ho1
    have := owns_sets hg cs w1 _ _ _ ho2 (by rw [List.length_take, hR, hcl, hsz]; omega)
    rw [hfl] at this
    simpa using this
  · intro t ht
    rcases List.mem_append.1 ht with h | h
    · refine E.own_keep (hE t h) (by rw [setsFrom_size]; exact hb.size) fun x hx => ?_
      have hxm : x ∈ ts.flatMap (·.2.2) := List.mem_flatMap.2 ⟨t, h, hx⟩
      rw [setsFrom_other _ _ _ _ x (by have := hlo x hxm; omega)]
      exact hb.block x (E.own_lt (hE t h) x hx)
    · simp at h
      subst h
      refine E.own_keep hd1 (by rw [setsFrom_size]; exact Nat.le_refl _) fun x hx => setsFrom_other _ _ _ _ x (by have := hd3 x hx; omega)
  · rw [List.flatMap_append]
    refine nodup_mk hnd (by simpa using hd2) fun x hx hx2 => ?_
    obtain ⟨t, ht, hxt⟩ := List.mem_flatMap.1 hx
    have h1 := E.own_lt (hE t ht) x hxt
    have h2 : x ∈ b2 := by simpa using hx2
    have := hd3 x h2
    omega
  · intro x hx
    rw [List.flatMap_append] at hx
    rcases List.mem_append.1 hx with h | h
    · exact hlo x h
    · have h2 : x ∈ b2 := by simpa using h
      have := hd3 x h2
      omega
theorem filling_end {w wr : World} {L : List D} (h : Filling E w wr L L.length) : OwX E wr w.heap.size wr.heap.size (.slice (some ⟨w.heap.size, 0, none⟩) L.length L.length) L ∧ Below w.heap.size w wr := by
  obtain ⟨hle, hbw, hlt, ts, R, hts, hR, ho, hE, hnd, hlo⟩ := h
  have hR0 : R = [] := by rw [Nat.sub_self, Nat.zero_mul] at hR; exact List.length_eq_zero_iff.1 hR
  subst hR0
  rw [List.take_length] at hts
  have htl : ts.length = L.length := by rw [← hts]; simp
  refine ⟨⟨w.heap.size :: ts.flatMap (·.2.2), ⟨ts, hts.symm, by rw [htl]; simpa using ho, hE, by simp [Value.ownBlock]⟩, ?_, ?_⟩, hbw⟩
  · exact List.nodup_cons.2 ⟨fun h => by have := hlo _ h; omega, hnd⟩
  · intro b hb
    rcases List.mem_cons.1 hb with rfl | hb
    · omega
    · have := hlo b hb
      obtain ⟨t, ht, hbt⟩ := List.mem_flatMap.1 hb
      have := E.own_lt (hE t ht) b hbt
      omega
end
section
variable {D : Type} (mk1 : D → Nat → D) (c1 : D → Nat)
/-- The marks of a row, from k on; and how many. -/
def mkLs : List D → Nat → List D
  | [], _ => []
  | d :: L, k => mk1 d k :: mkLs L (k + c1 d)
def cntLs : List D → Nat
  | [] => 0
  | d :: L => c1 d + cntLs L
theorem cnt_app (A B : List D) : cntLs c1 (A ++ B) = cntLs c1 A + cntLs c1 B := by
  induction A with
  | nil => simp [cntLs]
  | cons a A ih => simp only [List.cons_append, cntLs, ih]; omega
theorem cnt_take (L : List D) (j : Nat) (h : j < L.length) : cntLs c1 (L.take (j + 1)) = cntLs c1 (L.take j) + c1 L[j] := by
  rw [List.take_succ_eq_append_getElem h, cnt_app]; simp [cntLs]
theorem cnt_le (L : List D) (j : Nat) : cntLs c1 (L.take j) ≤ cntLs c1 L := by
  have h : cntLs c1 L = cntLs c1 (L.take j) + cntLs c1 (L.drop j) := by rw [← cnt_app, List.take_append_drop]
  omega
theorem mk_len' (L : List D) (k : Nat) : (mkLs mk1 c1 L k).length = L.length := by
  induction L generalizing k with
  | nil => rfl
  | cons d L ih => simp [mkLs, ih]
theorem mk_app (A B : List D) (k : Nat) : mkLs mk1 c1 (A ++ B) k = mkLs mk1 c1 A k ++ mkLs mk1 c1 B (k + cntLs c1 A) := by
  induction A generalizing k with
  | nil => simp [mkLs, cntLs]
  | cons d A ih => simp only [List.cons_append, mkLs, cntLs, ih]; rw [Nat.add_assoc]
theorem mk_at (L : List D) (k j : Nat) (h : j < L.length) (h' : j < (mkLs mk1 c1 L k).length) : (mkLs mk1 c1 L k)[j] = mk1 L[j] (k + cntLs c1 (L.take j)) := by
  induction L generalizing k j with
  | nil => exact absurd h (Nat.not_lt_zero _)
  | cons d L ih =>
    cases j with
    | zero => simp [mkLs, cntLs]
    | succ j =>
      simp only [mkLs, List.getElem_cons_succ, List.take_succ_cons, cntLs]
      rw [ih (k + c1 d) j (by simpa using h) (by rw [mk_len']; simpa using h), Nat.add_assoc]
/-- Half marked: the first j. -/
def mixLs (L : List D) (k j : Nat) : List D := mkLs mk1 c1 (L.take j) k ++ L.drop j
theorem mix_len (L : List D) (k j : Nat) (h : j ≤ L.length) : (mixLs mk1 c1 L k j).length = L.length := by unfold mixLs; rw [List.length_append, mk_len', List.length_take, List.length_drop]; omega
theorem mix_at (L : List D) (k j : Nat) (h : j < L.length) (h' : j < (mixLs mk1 c1 L k j).length) : (mixLs mk1 c1 L k j)[j] = L[j] := by
  have e : (mixLs mk1 c1 L k j)[j]? = L[j]? := by
    unfold mixLs
    rw [List.getElem?_append_right (by rw [mk_len', List.length_take]; omega), mk_len', List.length_take, Nat.min_eq_left (Nat.le_of_lt h), Nat.sub_self, List.getElem?_drop]
    rfl
  rw [List.getElem?_eq_getElem h', List.getElem?_eq_getElem h] at e
  exact Option.some.inj e
theorem mix_step (L : List D) (k j : Nat) (h : j < L.length) : (mixLs mk1 c1 L k j).set j (mk1 L[j] (k + cntLs c1 (L.take j))) = mixLs mk1 c1 L k (j + 1) := by
  unfold mixLs
  rw [List.set_append_right _ _ (by rw [mk_len', List.length_take]; omega), List.take_succ_eq_append_getElem h, mk_app, mk_len', List.length_take, Nat.min_eq_left (Nat.le_of_lt h), Nat.sub_self, List.drop_eq_getElem_cons h]
  simp only [mkLs, List.set_cons_zero, List.append_assoc, List.cons_append, List.nil_append]
theorem mix_zero (L : List D) (k : Nat) : mixLs mk1 c1 L k 0 = L := by simp [mixLs, mkLs]
theorem mix_end (L : List D) (k : Nat) : mixLs mk1 c1 L k L.length = mkLs mk1 c1 L k := by simp [mixLs]
end
section
variable {D : Type} (f : D → Int)
/-- The sum over a row. -/
def sumLs : List D → Int
  | [] => 0
  | d :: L => f d + sumLs L
theorem sum_app (A B : List D) : sumLs f (A ++ B) = sumLs f A + sumLs f B := by
  induction A with
  | nil => simp [sumLs]
  | cons a A ih => simp only [List.cons_append, sumLs, ih]; omega
theorem sum_take (L : List D) (j : Nat) (h : j < L.length) : sumLs f (L.take (j + 1)) = sumLs f (L.take j) + f L[j] := by
  rw [List.take_succ_eq_append_getElem h, sum_app]; simp [sumLs]
theorem sum_nn (hf : ∀ d, 0 ≤ f d) (L : List D) : 0 ≤ sumLs f L := by
  induction L with
  | nil => simp [sumLs]
  | cons a A ih => have := hf a; simp only [sumLs]; omega
theorem sum_split (L : List D) (j : Nat) (h : j < L.length) : sumLs f L = sumLs f (L.take j) + f L[j] + sumLs f (L.drop (j + 1)) := by
  conv => lhs; rw [← List.take_append_drop (j + 1) L, sum_app, sum_take f L j h]
theorem sum_mem (hf : ∀ d, 0 ≤ f d) (L : List D) (d : D) (h : d ∈ L) : f d ≤ sumLs f L := by
  induction L with
  | nil => cases h
  | cons a A ih =>
    have := sum_nn f hf A
    have := hf a
    simp only [sumLs]
    rcases List.mem_cons.1 h with rfl | h
    · omega
    · have := ih h; omega
end
end Go.Proofs.YtfemmnhfllbgjaaGreatDoor
/- A slice that came in, of elements of whatever make, read as a list of data; structs of few one-cell fields within a row. -/
namespace Go.Proofs.YtfemmnhfllbgjaaGreatDoor
open Go.RowKit
set_option maxRecDepth 100000
set_option linter.unusedSimpArgs false
set_option linter.unusedVariables false
open Go.ChangeShapes Go.WideShapes Go.ChangeAt Go.Joins Go.Deep in
theorem open_shape {D : Type} {E : Shp D} (d0 : D) {H : Type} {enc : TypeId × Value → H} {W : World} {base : Nat} {spare : Nat → Bool} {held : Bool} {t e : TypeId} {fuel : Nat} {v : Value} {x : DataW H × List MemPlace}
    (ht : Tryz.prog.underlying t = some (.slice e)) (hs : Tryz.prog.cellsOf e = E.size)
    (hel : ∀ cs n y, DataW.trod enc Tryz.prog W base spare held n e cs = some y → ∃ d : D, E.rd W cs d)
    (h : DataW.trod enc Tryz.prog W base spare held fuel t [v] = some x) : ∃ L : List D, RdR E W v L := by
  obtain ⟨L, hL, hR⟩ := open_rows (α := {cs : List Value // cs.length = E.size} × D) (⟨List.replicate E.size (.int .i64 0), by simp⟩, d0) (fun x => x.1.1) E.size (fun x => x.1.2) (fun x => E.rd W x.1.1 x.2) ht hs E.pos (fun cs n y hy => by
    obtain ⟨d, hd⟩ := hel cs n y hy
    exact ⟨(⟨cs, E.rd_len hd⟩, d), rfl, hd⟩) h
  refine ⟨L.map (·.2), L.map fun x => (x.1.1, x.2), by simp [Function.comp_def], ?_, fun t ht => ?_⟩
  · simpa [List.flatMap_map] using hL
  · obtain ⟨x, hx, rfl⟩ := List.mem_map.1 ht
    exact hR x hx
open Go.ChangeShapes Go.WideShapes Go.ChangeAt Go.Joins Go.Deep in
theorem scells2 {H : Type} {enc : TypeId × Value → H} {W : World} {base : Nat} {spare : Nat → Bool} {held : Bool} {t : TypeId} {f0 f1 : Field} {fuel : Nat} {cs : List Value} {x : DataW H × List MemPlace} (hs : Tryz.prog.underlying t = some (.struct #[f0, f1])) (hone : oneCellFields Tryz.prog #[f0, f1] = true) (hC : Tryz.prog.cellsOf t = 2)
    (h : DataW.trod enc Tryz.prog W base spare held fuel t cs = some x) :
    ∃ (c0 c1 : Value) (y0 y1 : DataW H × List MemPlace) (n : Nat), cs = [c0, c1] ∧ DataW.trod enc Tryz.prog W base spare held n f0.type [c0] = some y0 ∧ DataW.trod enc Tryz.prog W base spare held n f1.type [c1] = some y1 := by
  obtain ⟨y0, y1, n, hx, hl, h0, h1⟩ := trod_struct2 hs h
  obtain ⟨o0, k0⟩ := hone_of hone 0 f0 rfl
  obtain ⟨o1, k1⟩ := hone_of hone 1 f1 rfl
  rw [hC] at hl
  match cs, hl with
  | [c0, c1], _ => exact ⟨c0, c1, y0, y1, n, rfl, by simpa [o0, k0] using h0, by simpa [o1, k1] using h1⟩
open Go.ChangeShapes Go.WideShapes Go.ChangeAt Go.Joins Go.Deep in
theorem scells3 {H : Type} {enc : TypeId × Value → H} {W : World} {base : Nat} {spare : Nat → Bool} {held : Bool} {t : TypeId} {f0 f1 f2 : Field} {fuel : Nat} {cs : List Value} {x : DataW H × List MemPlace} (hs : Tryz.prog.underlying t = some (.struct #[f0, f1, f2])) (hone : oneCellFields Tryz.prog #[f0, f1, f2] = true) (hC : Tryz.prog.cellsOf t = 3)
    (h : DataW.trod enc Tryz.prog W base spare held fuel t cs = some x) :
    ∃ (c0 c1 c2 : Value) (y0 y1 y2 : DataW H × List MemPlace) (n : Nat), cs = [c0, c1, c2] ∧ DataW.trod enc Tryz.prog W base spare held n f0.type [c0] = some y0 ∧ DataW.trod enc Tryz.prog W base spare held n f1.type [c1] = some y1 ∧ DataW.trod enc Tryz.prog W base spare held n f2.type [c2] = some y2 := by
  obtain ⟨y0, y1, y2, n, hx, hl, h0, h1, h2⟩ := trod_struct3 hs h
  obtain ⟨o0, k0⟩ := hone_of hone 0 f0 rfl
  obtain ⟨o1, k1⟩ := hone_of hone 1 f1 rfl
  obtain ⟨o2, k2⟩ := hone_of hone 2 f2 rfl
  rw [hC] at hl
  match cs, hl with
  | [c0, c1, c2], _ => exact ⟨c0, c1, c2, y0, y1, y2, n, rfl, by simpa [o0, k0] using h0, by simpa [o1, k1] using h1, by simpa [o2, k2] using h2⟩
open Go.ChangeShapes Go.WideShapes Go.ChangeAt Go.Joins Go.Deep in
theorem scells4 {H : Type} {enc : TypeId × Value → H} {W : World} {base : Nat} {spare : Nat → Bool} {held : Bool} {t : TypeId} {f0 f1 f2 f3 : Field} {fuel : Nat} {cs : List Value} {x : DataW H × List MemPlace} (hs : Tryz.prog.underlying t = some (.struct #[f0, f1, f2, f3])) (hone : oneCellFields Tryz.prog #[f0, f1, f2, f3] = true) (hC : Tryz.prog.cellsOf t = 4)
    (h : DataW.trod enc Tryz.prog W base spare held fuel t cs = some x) :
    ∃ (c0 c1 c2 c3 : Value) (y0 y1 y2 y3 : DataW H × List MemPlace) (n : Nat), cs = [c0, c1, c2, c3] ∧ DataW.trod enc Tryz.prog W base spare held n f0.type [c0] = some y0 ∧ DataW.trod enc Tryz.prog W base spare held n f1.type [c1] = some y1 ∧ DataW.trod enc Tryz.prog W base spare held n f2.type [c2] = some y2 ∧ DataW.trod enc Tryz.prog W base spare held n f3.type [c3] = some y3 := by
  obtain ⟨y0, y1, y2, y3, n, hx, hl, h0, h1, h2, h3⟩ := trod_struct4 hs h
  obtain ⟨o0, k0⟩ := hone_of hone 0 f0 rfl
  obtain ⟨o1, k1⟩ := hone_of hone 1 f1 rfl
  obtain ⟨o2, k2⟩ := hone_of hone 2 f2 rfl
  obtain ⟨o3, k3⟩ := hone_of hone 3 f3 rfl
  rw [hC] at hl
  match cs, hl with
  | [c0, c1, c2, c3], _ => exact ⟨c0, c1, c2, c3, y0, y1, y2, y3, n, rfl, by simpa [o0, k0] using h0, by simpa [o1, k1] using h1, by simpa [o2, k2] using h2, by simpa [o3, k3] using h3⟩
end Go.Proofs.YtfemmnhfllbgjaaGreatDoor
/- Tokens in plain words: the mac, numbers as texts and back, texts parted at a sign. -/
namespace Go.Proofs.YtfemmnhfllbgjaaGreatDoor
open Go.RowKit
set_option maxRecDepth 100000
set_option linter.unusedSimpArgs false
set_option linter.unusedVariables false
def macS (h b : Int) : Int := (h * 1000003 + b + 1) % 2147483647
def macL (h : Int) : List Int → Int
  | [] => h
  | b :: l => macL (macS h b) l
theorem macL_app (h : Int) (a b : List Int) : macL h (a ++ b) = macL (macL h a) b := by
  induction a generalizing h with
  | nil => rfl
  | cons x a ih => exact ih _
theorem macS_range (h b : Int) : 0 ≤ macS h b ∧ macS h b ≤ 2147483646 := by
  unfold macS
  have h1 := Int.emod_nonneg (h * 1000003 + b + 1) (show (2147483647 : Int) ≠ 0 by decide)
  have h2 := Int.emod_lt_of_pos (h * 1000003 + b + 1) (show (0 : Int) < 2147483647 by decide)
  omega
theorem macL_range {h : Int} (l : List Int) (h0 : 0 ≤ h) (h1 : h ≤ 2147483646) : 0 ≤ macL h l ∧ macL h l ≤ 2147483646 := by
  induction l generalizing h with
  | nil => exact ⟨h0, h1⟩
  | cons b l ih => have := macS_range h b; exact ih this.1 this.2
def macV (key text : ByteArray) : Int := macL 17 (bys key ++ ([10] ++ (bys text ++ ([10] ++ bys key))))
theorem macV_range (key text : ByteArray) : 0 ≤ macV key text ∧ macV key text ≤ 2147483646 := macL_range _ (by decide) (by decide)
def nameB (s : ByteArray) : Bool := (bys s).all (fun b => inB b 97 122) && inB (s.size : Int) 1 20
/-- A number's digits. -/
def decFT : Nat → Nat → List Int
  | 0, _ => []
  | f + 1, n => if n < 10 then [48 + (n : Int)] else decFT f (n / 10) ++ [48 + ((n % 10 : Nat) : Int)]
def decL (n : Nat) : List Int := decFT (n + 1) n
theorem decF_eq : ∀ (f f' n : Nat), n < f → n < f' → decFT f n = decFT f' n
  | 0, _, _, h, _ => absurd h (Nat.not_lt_zero _)
  | _ + 1, 0, _, _, h => absurd h (Nat.not_lt_zero _)
  | f + 1, f' + 1, n, h, h' => by
    unfold decFT
    split
    · rfl
    · rename_i hn
      rw [decF_eq f f' (n / 10) (by omega) (by omega)]
theorem decL_step {n : Nat} (h : ¬ n < 10) : decL n = decL (n / 10) ++ [48 + ((n % 10 : Nat) : Int)] := by
  show decFT (n + 1) n = _
  rw [decFT, if_neg h]
  unfold decL
  rw [decF_eq n (n / 10 + 1) (n / 10) (by omega) (by omega)]
theorem decL_one {n : Nat} (h : n < 10) : decL n = [48 + (n : Int)] := by
  show decFT (n + 1) n = _
  rw [decFT, if_pos h]
theorem decL_range (n : Nat) : ∀ x ∈ decL n, 48 ≤ x ∧ x ≤ 57 := by
  induction n using Nat.strongRecOn with
  | _ n ih =>
    by_cases h : n < 10
    · rw [decL_one h]; intro x hx; simp at hx; omega
    · rw [decL_step h]
      intro x hx
      rcases List.mem_append.1 hx with hx | hx
      · exact ih (n / 10) (by omega) x hx
      · simp at hx; omega
theorem decL_len (n : Nat) : 1 ≤ (decL n).length := by
  by_cases h : n < 10
  · rw [decL_one h]; simp
  · rw [decL_step h]; simp
/-- How many digits there are. -/
theorem decL_short : ∀ (k n : Nat), n < 10 ^ k → 0 < k → (decL n).length ≤ k
  | 0, _, _, h => absurd h (Nat.lt_irrefl _)
  | k + 1, n, h, _ => by
    by_cases h1 : n < 10
    · rw [decL_one h1]; simp
    · rw [decL_step h1]
      have hk : 0 < k := by
        rcases Nat.eq_zero_or_pos k with e | e
        · subst e; simp at h; omega
        · exact e
      have := decL_short k (n / 10) (by rw [Nat.pow_succ] at h; omega) hk
      simp; omega
def valL (n : Int) : List Int → Int
  | [] => n
  | b :: l => valL (n * 10 + (b - 48)) l
theorem valL_app (n : Int) (a b : List Int) : valL n (a ++ b) = valL (valL n a) b := by
  induction a generalizing n with
  | nil => rfl
  | cons x a ih => exact ih _
theorem valL_dec (n : Nat) : valL 0 (decL n) = n := by
  induction n using Nat.strongRecOn with
  | _ n ih =>
    by_cases h : n < 10
    · rw [decL_one h]; simp [valL]; omega
    · rw [decL_step h, valL_app, ih (n / 10) (by omega)]
      simp only [valL]
      omega
theorem dec_first {n : Nat} (h : (decL n).head? = some 48) : n = 0 := by
  induction n using Nat.strongRecOn with
  | _ n ih =>
    by_cases h1 : n < 10
    · rw [decL_one h1] at h; simp at h; omega
    · rw [decL_step h1] at h
      have hl := decL_len (n / 10)
      cases hd : decL (n / 10) with
      | nil => rw [hd] at hl; simp at hl
      | cons x l =>
        rw [hd] at h
        have := ih (n / 10) (by omega) (by rw [hd]; simpa using h)
        omega
/-- A number of at most so many digits, as texts have it. -/
def digL (neg : Bool) (l : List Int) (most : Nat) : Int × Bool :=
  if l.length < 1 ∨ most < l.length then (0, false)
  else if l.all (fun b => inB b 48 57) = false then (0, false)
  else if l.head? = some 48 ∧ (neg = true ∨ 1 < l.length) then (0, false)
  else (if neg = true then - valL 0 l else valL 0 l, true)
def digV (s : ByteArray) (most : Nat) : Int × Bool := if (bys s).head? = some 45 then digL true ((bys s).drop 1) most else digL false (bys s) most
theorem digL_dec {n most : Nat} (h : (decL n).length ≤ most) : digL false (decL n) most = ((n : Int), true) := by
  unfold digL
  have hl := decL_len n
  rw [if_neg (by omega)]
  have ha : (decL n).all (fun b => inB b 48 57) = true := List.all_eq_true.2 fun x hx => inB_of (decL_range n x hx).1 (decL_range n x hx).2
  rw [if_neg (by rw [ha]; simp), if_neg ?_]
  · simp [valL_dec]
  · rintro ⟨h1, h2⟩
    have := dec_first h1
    subst this
    rcases h2 with h2 | h2
    · cases h2
    · rw [decL_one (by decide)] at h2; simp at h2
def timeB (t : Int) : Bool := inB t 0 1000000
def tokB (name : ByteArray) (until_ : Int) : List Int := bys name ++ ([46] ++ decL until_.toNat)
def tokL (name : ByteArray) (until_ : Int) (key : ByteArray) : List Int :=
  if nameB name = true ∧ timeB until_ = true ∧ key.size ≤ 40 then tokB name until_ ++ ([46] ++ decL (macV key (strOf (tokB name until_))).toNat) else []
def tokV (name : ByteArray) (until_ : Int) (key : ByteArray) : ByteArray := strOf (tokL name until_ key)
/-- A text parted at each sign 46. -/
def splitL : List Int → List (List Int)
  | [] => [] :: []
  | b :: l => if b = 46 then [] :: splitL l else match splitL l with
    | [] => [b] :: []
    | x :: r => (b :: x) :: r
theorem splitL_none {l : List Int} (h : ∀ x ∈ l, x ≠ 46) : splitL l = [l] := by
  induction l with
  | nil => rfl
  | cons b l ih =>
    unfold splitL
    rw [if_neg (h b (by simp)), ih (fun x hx => h x (by simp [hx]))]
theorem splitL_app {a b : List Int} (h : ∀ x ∈ a, x ≠ 46) : splitL (a ++ 46 :: b) = a :: splitL b := by
  induction a with
  | nil => simp [splitL]
  | cons x a ih =>
    have e := ih (fun y hy => h y (by simp [hy]))
    show splitL (x :: (a ++ 46 :: b)) = _
    rw [splitL, if_neg (h x (by simp)), e]
def readV (s : ByteArray) : ByteArray × Int × Bool :=
  match splitL (bys s) with
  | [x, y, z] => if nameB (strOf x) = true ∧ (digV (strOf y) 9).2 = true ∧ (digV (strOf z) 10).2 = true ∧ timeB (digV (strOf y) 9).1 = true ∧ inB (digV (strOf z) 10).1 0 2147483646 = true then (strOf x, (digV (strOf y) 9).1, true) else (⟨#[]⟩, 0, false)
  | _ => (⟨#[]⟩, 0, false)
def signV (s key : ByteArray) (now : Int) : Bool := (readV s).2.2 && decide (now < (readV s).2.1) && decide (s = tokV (readV s).1 (readV s).2.1 key)
theorem tok_range {name : ByteArray} {u : Int} : ∀ x ∈ tokB name u, 0 ≤ x ∧ x ≤ 255 := by
  intro x hx
  unfold tokB at hx
  simp only [List.mem_append, List.mem_singleton] at hx
  rcases hx with hx | rfl | hx
  · exact bys_range name x hx
  · decide
  · have := decL_range _ x hx; omega
theorem tokL_range {name : ByteArray} {u : Int} {key : ByteArray} : ∀ x ∈ tokL name u key, 0 ≤ x ∧ x ≤ 255 := by
  intro x hx
  unfold tokL at hx
  split at hx
  · simp only [List.mem_append, List.mem_singleton] at hx
    rcases hx with hx | rfl | hx
    · exact tok_range x hx
    · decide
    · have := decL_range _ x hx; omega
  · cases hx
/-- A token is read as it was made. -/
theorem read_tok {name : ByteArray} {u : Int} {key : ByteArray} (h1 : nameB name = true) (h2 : timeB u = true) (h3 : key.size ≤ 40) : readV (tokV name u key) = (name, u, true) := by
  have hb : bys (tokV name u key) = tokL name u key := bys_strOf tokL_range
  obtain ⟨t0, t1⟩ := inB_true h2
  have hn : ∀ x ∈ bys name, x ≠ 46 := fun x hx e => by
    unfold nameB at h1
    simp only [Bool.and_eq_true, List.all_eq_true] at h1
    have := inB_true (h1.1 x hx)
    omega
  have hd : ∀ k, ∀ x ∈ decL k, x ≠ 46 := fun k x hx e => by have := decL_range k x hx; omega
  have hs : splitL (tokL name u key) = [bys name, decL u.toNat, decL (macV key (strOf (tokB name u))).toNat] := by
    unfold tokL
    rw [if_pos ⟨h1, h2, h3⟩]
    show splitL ((bys name ++ ([46] ++ decL u.toNat)) ++ ([46] ++ decL _)) = _
    rw [List.append_assoc]
    show splitL (bys name ++ 46 :: (decL u.toNat ++ 46 :: decL _)) = _
    rw [splitL_app hn, splitL_app (hd _), splitL_none (hd _)]
  have dv : ∀ k most : Nat, (decL k).length ≤ most → digV (strOf (decL k)) most = ((k : Int), true) := fun k most hk => by
    have e : bys (strOf (decL k)) = decL k := bys_strOf (fun x hx => by have := decL_range k x hx; omega)
    unfold digV
    rw [e, if_neg, digL_dec hk]
    intro c
    have hm : (45 : Int) ∈ decL k := List.mem_of_head? c
    have := decL_range k 45 hm
    omega
  have m := macV_range key (strOf (tokB name u))
  have dy := dv u.toNat 9 (decL_short 9 _ (by omega) (by decide))
  have dz := dv (macV key (strOf (tokB name u))).toNat 10 (decL_short 10 _ (by omega) (by decide))
  unfold readV
  rw [hb, hs]
  simp only [dy, dz, strOf_bys]
  rw [if_pos ⟨h1, trivial, trivial, inB_of (by omega) (by omega), inB_of (by omega) (by omega)⟩]
  have e : ((u.toNat : Nat) : Int) = u := by omega
  rw [e]
theorem tok_empty {name : ByteArray} {u : Int} {key : ByteArray} : tokV name u key = ⟨#[]⟩ ↔ ¬ (nameB name = true ∧ timeB u = true ∧ key.size ≤ 40) := by
  constructor
  · intro h c
    have hb : bys (tokV name u key) = tokL name u key := bys_strOf tokL_range
    rw [h] at hb
    unfold tokL at hb
    rw [if_pos c] at hb
    have : (bys (⟨#[]⟩ : ByteArray)).length = 0 := rfl
    rw [hb] at this
    simp at this
  · intro h
    unfold tokV tokL
    rw [if_neg h]; rfl
theorem dec_inj {a b : Nat} (h : decL a = decL b) : a = b := by
  have h1 := valL_dec a
  rw [h, valL_dec b] at h1
  omega
/-- Two keys make one token of a name and a time just where they make one mac of the text ahead. -/
theorem tok_same {name : ByteArray} {u : Int} {key key' : ByteArray} (h1 : nameB name = true) (h2 : timeB u = true) (h3 : key.size ≤ 40) (h4 : key'.size ≤ 40) : tokV name u key = tokV name u key' ↔ macV key (strOf (tokB name u)) = macV key' (strOf (tokB name u)) := by
  have b1 : bys (tokV name u key) = tokL name u key := bys_strOf tokL_range
  have b2 : bys (tokV name u key') = tokL name u key' := bys_strOf tokL_range
  have m1 := macV_range key (strOf (tokB name u))
  have m2 := macV_range key' (strOf (tokB name u))
  constructor
  · intro h
    rw [h, b2] at b1
    unfold tokL at b1
    rw [if_pos ⟨h1, h2, h4⟩, if_pos ⟨h1, h2, h3⟩] at b1
    have e := List.append_cancel_left (List.append_cancel_left b1)
    have := dec_inj e
    omega
  · intro h
    refine bys_inj ?_
    rw [b1, b2]
    unfold tokL
    rw [if_pos ⟨h1, h2, h3⟩, if_pos ⟨h1, h2, h4⟩, h]
/-- A token is signed while it lasts by its own key, and by another one just where both make one mac. -/
theorem sign_tok {name : ByteArray} {u : Int} {key key' : ByteArray} (now : Int) (h1 : nameB name = true) (h2 : timeB u = true) (h3 : key.size ≤ 40) (h4 : key'.size ≤ 40) : signV (tokV name u key) key' now = (decide (now < u) && decide (macV key (strOf (tokB name u)) = macV key' (strOf (tokB name u)))) := by
  unfold signV
  rw [read_tok h1 h2 h3]
  simp only [Bool.true_and]
  congr 1
  exact decide_eq_decide.2 (tok_same h1 h2 h3 h4)
/-- What is signed is a token of this key that lasts. -/
theorem sign_is {s key : ByteArray} {now : Int} (h : signV s key now = true) : (readV s).2.2 = true ∧ now < (readV s).2.1 ∧ tokV (readV s).1 (readV s).2.1 key = s := by
  unfold signV at h
  simp only [Bool.and_eq_true, decide_eq_true_eq] at h
  exact ⟨h.1.1, h.1.2, h.2.symm⟩
end Go.Proofs.YtfemmnhfllbgjaaGreatDoor
/- Rows of int64: copied, held against each other, marked, read again, counted. -/
namespace Go.Proofs.YtfemmnhfllbgjaaGreatDoor
open Go.RowKit
set_option maxRecDepth 100000
set_option linter.unusedSimpArgs false
set_option linter.unusedVariables false

def iv (L : List Int) : List Value := L.map (Value.int .i64)
theorem iv_len (L : List Int) : (iv L).length = L.length := by simp [iv]
theorem iv_get (L : List Int) (k : Nat) (h : k < L.length) : (iv L)[k]? = some (.int .i64 L[k]) := by simp [iv, h]

/-- n marks, from k on. -/
def mk (k : Int) (n : Nat) : List Value := (List.range n).map fun (j : Nat) => Value.int .i64 (k + j)
theorem mk_len (k : Int) (n : Nat) : (mk k n).length = n := by simp [mk]
theorem mk_get (k : Int) (n j : Nat) (h : j < n) : (mk k n)[j]? = some (.int .i64 (k + j)) := by simp [mk, h]

end Go.Proofs.YtfemmnhfllbgjaaGreatDoor
/- The cursor beside memory that turns within an interval of blocks. (DrawCells holds the same for its own seat.) -/
namespace Go.Proofs.YtfemmnhfllbgjaaGreatDoor
open Go.RowKit
set_option maxRecDepth 100000
set_option linter.unusedSimpArgs false
set_option linter.unusedVariables false

theorem Moves.turn {g : Nat} {w w' : World} (h : Moves g w w') : Turn g (g + 1) w w' := ⟨h.os, h.tape, h.output, h.size, fun k hk hg => h.block k hk (by omega)⟩
theorem owns_moves {w w' : World} {g base n size : Nat} {e : TypeId} {v : Value} {xs : List Value} (h : w.ownsRow base e size v n xs) (hm : Moves g w w') (hg : g < base) : w'.ownsRow base e size v n xs :=
  owns_turn h hm.turn fun k hk => by have := (h.lt k hk).1; omega
theorem Cur.turn {w w' : World} {g B lo hi : Nat} (h : Cur w g B) (ht : Turn lo hi w w') (hl : g < lo) : Cur w' g B :=
  h.kept ⟨ht.os, ht.tape, ht.output, ht.size, fun k hk => ht.block k (by have := h.lt; omega) (by omega)⟩
theorem Moves.turned {w a b : World} {g lo hi : Nat} (h : Moves g w a) (ht : Turn lo hi a b) (hl : w.heap.size ≤ lo) : Moves g w b :=
  ⟨ht.os.trans h.os, ht.tape.trans h.tape, ht.output.trans h.output, Nat.le_trans h.size ht.size, fun k hk hg => (ht.block k (by have := h.size; omega) (by omega)).trans (h.block k hk hg)⟩

theorem from1 (g B : Nat) (lo hi : Int) (w : World) (hc : Cur w g B) (h0 : -1000 ≤ lo) (h1 : lo ≤ hi) (h2 : hi ≤ 1000) :
    Calls Tryz.prog 29 #[.pointer (some ⟨g, 0, none⟩), .int .i64 lo, .int .i64 hi] w fun e w' => ∃ x : Int, lo ≤ x ∧ x ≤ hi ∧ e = .returned (.int .i64 x) ∧ Cur w' g B ∧ Moves g w w' := by
  go_enter Tryz.func29, Tryz.ntmps29
  go_wp2_with fail
  refine (below1 g B (hi - lo + 1) _ hc (by omega)).mono ?_; rintro e w1 ⟨x, x0, x1, x2, rfl, hc1, hm1⟩
  have x3 := x1 (by omega)
  go_wp2_with fail
  go_ret
  exact ⟨lo + x, by omega, by omega, rfl, hc1, hm1⟩
theorem RowIs.moves {w w' : World} {g b : Nat} {ty : TypeId} {cs : List Value} (h : RowIs w b ty cs) (hm : Moves g w w') (hne : b ≠ g) : RowIs w' b ty cs := h.kept (hm.block b h.lt hne)
theorem RowIs.turn {w w' : World} {lo hi b : Nat} {ty : TypeId} {cs : List Value} (h : RowIs w b ty cs) (ht : Turn lo hi w w') (hne : b < lo ∨ hi ≤ b) : RowIs w' b ty cs := h.kept (ht.block b h.lt hne)
end Go.Proofs.YtfemmnhfllbgjaaGreatDoor
/- A text that is bent: some bytes, at most two more than before; of what was there the cursor alone has moved. -/
namespace Go.Proofs.YtfemmnhfllbgjaaGreatDoor
open Go.RowKit
set_option maxRecDepth 100000
set_option linter.unusedSimpArgs false
set_option linter.unusedVariables false

/-- A slice of n bytes in a block that the call made. -/
def BR (w : World) (base : Nat) (ad : Option Addr) (n cap : Nat) : Prop :=
  n ≤ cap ∧ cap ≤ maxLen ∧ (0 < n → ∃ blk, ad = some ⟨blk, 0, none⟩ ∧ base ≤ blk ∧ blk < w.heap.size ∧ ∀ j, j < n → (∃ u, ByteVal u ∧ w.cell? ⟨blk, j, none⟩ = some u) ∧ w.frozen? ⟨blk, j, none⟩ = false)

theorem BR.kept {w w' : World} {base : Nat} {ad : Option Addr} {n cap : Nat} (h : BR w base ad n cap) (hs : w.heap.size ≤ w'.heap.size) (hk : ∀ k, base ≤ k → k < w.heap.size → w'.heap[k]? = w.heap[k]?) : BR w' base ad n cap := by
  obtain ⟨h1, h2, h3⟩ := h
  refine ⟨h1, h2, fun hn => ?_⟩
  obtain ⟨blk, rfl, hb, hl, hc⟩ := h3 hn
  refine ⟨blk, rfl, hb, by omega, fun j hj => ?_⟩
  have e := hk blk hb hl
  obtain ⟨⟨u, hu, hcu⟩, hf⟩ := hc j hj
  exact ⟨⟨u, hu, (World.cell?_of_block (a := ⟨blk, j, none⟩) e).trans hcu⟩, (World.frozen?_of_block (a := ⟨blk, j, none⟩) e).trans hf⟩
theorem BR.moves {g : Nat} {w w' : World} {base : Nat} {ad : Option Addr} {n cap : Nat} (h : BR w base ad n cap) (hm : Moves g w w') (hg : g < base) : BR w' base ad n cap :=
  h.kept hm.size fun k hb hl => hm.block k hl (by omega)
theorem BR.cut {w : World} {base : Nat} {ad : Option Addr} {n cap : Nat} (h : BR w base ad n cap) (k : Nat) (hk : k ≤ n) : BR w base ad k cap := by
  obtain ⟨h1, h2, h3⟩ := h
  refine ⟨by omega, h2, fun hn => ?_⟩
  obtain ⟨blk, e, hb, hl, hc⟩ := h3 (by omega)
  exact ⟨blk, e, hb, hl, fun j hj => hc j (by omega)⟩
theorem BR.of_owns {w : World} {base n cap : Nat} {ad : Option Addr} {xs : List Value} (h : w.ownsRow base 5 1 (.slice ad n cap) n xs) (hx : ∀ u ∈ xs, ByteVal u) : BR w base ad n cap := by
  obtain ⟨hl, h2⟩ := h
  rcases h2 with ⟨h2, h3⟩ | ⟨g, cap', cur, e1, hb, hg, h3, h4, h5, h6⟩
  · simp only [Value.slice.injEq] at h2
    obtain ⟨rfl, rfl, rfl⟩ := h2
    exact ⟨Nat.le_refl _, Nat.zero_le _, fun h => absurd h (Nat.lt_irrefl _)⟩
  · simp only [Value.slice.injEq, true_and] at e1
    obtain ⟨rfl, rfl⟩ := e1
    refine ⟨h3, h4, fun hn => ⟨g, rfl, hb, (Array.getElem?_eq_some_iff.1 hg).1, fun j hj => ⟨?_, Joins.unfrozen_of_block hg j⟩⟩⟩
    have hj2 : j < cur.size := by omega
    refine ⟨cur[j], hx _ ?_, by rw [Joins.cell_of_block hg, Array.getElem?_eq_getElem hj2]⟩
    rw [← h6, List.mem_iff_getElem?]
    exact ⟨j, by rw [List.getElem?_take_of_lt (by omega)]; simp [hj2]⟩
/-- A window of such a slice reads as bytes. -/
theorem BR.window {w : World} {base : Nat} {n cap blk : Nat} (h : BR w base (some ⟨blk, 0, none⟩) n cap) (i m cap' : Nat) (him : i + m ≤ n) (hc : m ≤ cap') (hc' : cap' ≤ maxLen) (ad : Option Addr) (ha : 0 < m → ad = some ⟨blk, i, none⟩) :
    ∃ xs : List Value, (∀ u ∈ xs, ByteVal u) ∧ xs.length = m ∧ Reads w (.slice ad m cap') m 1 xs := by
  obtain ⟨h1, h2, h3⟩ := h
  have hall : ∀ m, i + m ≤ n → ∃ xs : List Value, (∀ u ∈ xs, ByteVal u) ∧ xs.length = m ∧ ∀ j u, xs[j]? = some u → w.cell? ⟨blk, i + j, none⟩ = some u := by
    intro m
    induction m with
    | zero => intro _; exact ⟨[], by simp, rfl, by simp⟩
    | succ m ih =>
      intro hm
      obtain ⟨xs, a1, a2, a3⟩ := ih (by omega)
      obtain ⟨blk', e, _, _, hcc⟩ := h3 (by omega)
      simp only [Option.some.injEq, Addr.mk.injEq, and_true] at e
      subst e
      obtain ⟨⟨u, hu, hcu⟩, _⟩ := hcc (i + m) (by omega)
      refine ⟨xs ++ [u], mem_append_byte a1 u hu, by simp [a2], fun j v hj => ?_⟩
      by_cases hjm : j < m
      · rw [List.getElem?_append_left (by omega)] at hj; exact a3 j v hj
      · have : j = m := by
          have := (List.getElem?_eq_some_iff.1 hj).1
          simp at this; omega
        subst this
        rw [← a2] at hj
        simp at hj
        subst hj; exact hcu
  obtain ⟨xs, a1, a2, a3⟩ := hall m him
  refine ⟨xs, a1, a2, by omega, ad, cap', rfl, hc, hc', fun hm => ?_⟩
  obtain ⟨blk', e, _, hl, _⟩ := h3 (by omega)
  simp only [Option.some.injEq, Addr.mk.injEq, and_true] at e
  subst e
  exact ⟨blk, i, ha hm, hl, a3⟩
theorem byte_one {u : Value} (h : ByteVal u) : u.oneCell' = true := by obtain ⟨z, rfl, _⟩ := h; rfl
theorem bytes_one {xs : List Value} (h : ∀ u ∈ xs, ByteVal u) : ∀ u ∈ xs, u.oneCell' = true := fun u hu => byte_one (h u hu)

theorem BR.string {W : World} {base n cap : Nat} {ad : Option Addr} (h : BR W base ad n cap) (hn : n = 0 → ad = none ∨ ∃ b o, ad = some ⟨b, o, none⟩) :
    ∃ s : ByteArray, s.size = n ∧ (convert 22 9 (.slice ad n cap)).run Tryz.prog W = .ok (.string s) W := by
  by_cases h0 : n = 0
  · subst h0
    rcases hn rfl with rfl | ⟨b, o, rfl⟩
    · exact ⟨⟨#[]⟩, rfl, by simpa using Lib.run_convert_nil_bytes (P := Tryz.prog) W 22 9 5 cap Tryz.underlying22 Tryz.underlying5 Tryz.underlying9⟩
    · exact ⟨⟨#[]⟩, rfl, by simpa using run_convert_bytes_back (P := Tryz.prog) W 22 9 5 ⟨b, o, none⟩ cap [] Tryz.underlying22 Tryz.underlying5 Tryz.underlying9 (fun j hj => by simp at hj)⟩
  · obtain ⟨blk, rfl, hb, hl, hc⟩ := h.2.2 (by omega)
    obtain ⟨xs, a1, a2, a3⟩ := h.window (blk := blk) 0 n cap (by omega) h.1 h.2.1 (some ⟨blk, 0, none⟩) (fun _ => rfl)
    obtain ⟨l, hl1, hl2⟩ := bytes_list xs a1
    refine ⟨⟨l.toArray⟩, by simp [ByteArray.size]; omega, ?_⟩
    have := run_convert_bytes_back (P := Tryz.prog) W 22 9 5 ⟨blk, 0, none⟩ cap l Tryz.underlying22 Tryz.underlying5 Tryz.underlying9 (fun j hj => by
      obtain ⟨_, ad', cap', e, _, _, hh⟩ := a3
      obtain ⟨b', o', e2, _, hh2⟩ := hh (by omega)
      simp only [Value.slice.injEq, true_and] at e
      obtain ⟨rfl, rfl⟩ := e
      simp only [Option.some.injEq, Addr.mk.injEq, and_true] at e2
      obtain ⟨rfl, rfl⟩ := e2
      have h6 : ((⟨blk, 0, none⟩ : Addr).add j) = ⟨blk, 0 + j, none⟩ := by unfold Addr.add; split <;> simp_all
      rw [h6]
      exact hh2 j _ (hl2 j hj))
    rw [show l.length = n by omega] at this
    exact this

/-- The bytes of a text, laid anew. -/
theorem br_new (w : World) (s : ByteArray) (hs : s.size ≤ 1000000) (hcap : grownCap w s.size 0 5 ≤ maxLen) (hle : s.size ≤ grownCap w s.size 0 5) :
    BR (Lib.bytesWorld w 5 s) w.heap.size (some ⟨w.heap.size, 0, none⟩) s.size (grownCap w s.size 0 5) := by
  refine ⟨hle, hcap, fun hn => ⟨w.heap.size, rfl, Nat.le_refl _, by rw [Lib.bytesWorld_size]; omega, fun j hj => ⟨⟨_, ?_, Lib.bytesWorld_cell w 5 s j hj⟩, ?_⟩⟩⟩
  · have := (s.data.toList.getD j 0).toNat_lt
    exact ⟨_, rfl, by omega, by omega⟩
  · have hsz : j < (Lib.bytesCells w 5 s).size := by
      have h2 : s.size = s.data.size := rfl
      simp [Lib.bytesCells]; omega
    unfold World.frozen?
    simp only [Lib.bytesWorld_at_new]
    simp
    omega
end Go.Proofs.YtfemmnhfllbgjaaGreatDoor
/- append onto a slice that has no room (wherever it lies): a row of its own. -/
namespace Go.Proofs.YtfemmnhfllbgjaaGreatDoor
open Go.RowKit
set_option maxRecDepth 100000
set_option linter.unusedSimpArgs false
set_option linter.unusedVariables false
theorem reads_add {w : World} {b o m cap size : Nat} {news : List Value} (h : Reads w (.slice (some ⟨b, o, none⟩) m cap) m size news) (h0 : 0 < m) : ∀ j x, news[j]? = some x → w.cell? ((⟨b, o, none⟩ : Addr).add j) = some x := by
  obtain ⟨hl, ad, cap', he, _, _, h4⟩ := h
  obtain ⟨b', o', e1, _, hc⟩ := h4 h0
  simp only [Value.slice.injEq] at he
  obtain ⟨he1, _, _⟩ := he
  rw [← he1] at e1
  simp only [Option.some.injEq, Addr.mk.injEq] at e1
  obtain ⟨rfl, rfl, _⟩ := e1
  intro j x hj
  have ha : (⟨b, o, none⟩ : Addr).add j = ⟨b, o + j, none⟩ := by unfold Addr.add; split <;> simp_all
  rw [ha]; exact hc j x hj
theorem run_app_full (w : World) (t ty e : TypeId) (z : Value) (size bytes : Nat) (ht : Tryz.prog.underlying t = some (.slice e)) (hinf : ((Tryz.prog.info? e).map fun i => (i.zero, i.size, i.bytes)) = some (some z, size, bytes)) (hzs : z.cells.size = size)
    (b o n cap : Nat) (xs : List Value) (hr0 : Reads w (.slice (some ⟨b, o, none⟩) n cap) n size xs) (hn0 : 0 < n) (b2 o2 m cap2 : Nat) (news : List Value) (hr : Reads w (.slice (some ⟨b2, o2, none⟩) m cap2) m size news) (hm0 : 0 < m) (hfull : cap < n + m)
    (hnm : n + m ≤ 2097152) (hby : bytes ≤ 1000) :
    ∃ ad' cap' w', (Builtin.append_ #[t, t] ty #[.slice (some ⟨b, o, none⟩) n cap, .slice (some ⟨b2, o2, none⟩) m cap2]).run Tryz.prog w = .ok (.slice ad' (n + m) cap') w' ∧ w'.ownsRow w.heap.size e size (.slice ad' (n + m) cap') (n + m) (xs ++ news) ∧ Below w.heap.size w w' := by
  obtain ⟨i, hi, hz, hs, hb⟩ := info_parts (P := Tryz.prog) (e := e) (z := z) (size := size) (bytes := bytes) hinf
  have hbytes : (n + m) * bytes ≤ 140737488355328 := by
    have := Nat.mul_le_mul hnm hby
    omega
  subst hs
  subst hb
  have hlx := hr0.1
  have hln := hr.1
  have hg := run_append_grow (P := Tryz.prog) w t ty e i z ht hi hz ⟨b, o, none⟩ n cap xs hlx (reads_add hr0 hn0) ⟨b2, o2, none⟩ m cap2 news hln (reads_add hr hm0) hfull (by omega) (growslice_fits hfull hbytes)
  have hge := grownCap_ge w (n + m) cap e
  have hcm : grownCap w (n + m) cap e ≤ maxLen := grownCap_le_maxLen w (n + m) cap e (by unfold maxLen; omega)
  have hlen : (xs ++ news).length = (n + m) * i.size := by rw [List.length_append, hlx, hln, Nat.add_mul]
  refine ⟨_, _, _, hg, ⟨hlen, .inr ⟨w.heap.size, _, _, rfl, Nat.le_refl _, heap_alloc_new w.drew _, hge, hcm, ?_, ?_⟩⟩, ⟨rfl, rfl, rfl, by simp, fun k hk => heap_alloc_old w.drew _ hk⟩⟩
  · simp only [Array.size_append, List.size_toArray, size_zeroCells, hzs, hlx, hln, ← Nat.add_mul]
    congr 1
    omega
  · simp only [Array.toList_append, List.append_assoc]
    rw [← List.append_assoc, ← hlen]
    exact List.take_left
theorem wpList_app_full (w : World) {ops : Array Oper} {rest : List Oper} {op : Oper} {a : Act} {Q : Exit → Act → World → Prop} (hgd : op.guard = none) (s x : Operand) (t : TypeId) (ho : op.op = .call { callee := .builtin .append, args := #[s, x], argTypes := #[t, t] })
    (e : TypeId) (z : Value) (size bytes : Nat) (ht : Tryz.prog.underlying t = some (.slice e)) (hinf : ((Tryz.prog.info? e).map fun i => (i.zero, i.size, i.bytes)) = some (some z, size, bytes)) (hzs : z.cells.size = size)
    (b o n cap : Nat) (xs : List Value) (hs : a.eval s = .slice (some ⟨b, o, none⟩) n cap) (hr0 : Reads w (.slice (some ⟨b, o, none⟩) n cap) n size xs) (hn0 : 0 < n) (b2 o2 m cap2 : Nat) (news : List Value) (hx : a.eval x = .slice (some ⟨b2, o2, none⟩) m cap2) (hr : Reads w (.slice (some ⟨b2, o2, none⟩) m cap2) m size news) (hm0 : 0 < m) (hfull : cap < n + m)
    (hnm : n + m ≤ 2097152) (hby : bytes ≤ 1000)
    (h : ∀ ad' cap' w', w'.ownsRow w.heap.size e size (.slice ad' (n + m) cap') (n + m) (xs ++ news) → Below w.heap.size w w' → wpList Tryz.prog ops Q rest (a.put op.dst (.slice ad' (n + m) cap')) w') : wpList Tryz.prog ops Q (op :: rest) a w :=
  wpList_plain hgd fun _ hK => by
    obtain ⟨ad', cap', w', hrun, h2, h3⟩ := run_app_full w t op.type e z size bytes ht hinf hzs b o n cap xs hr0 hn0 b2 o2 m cap2 news hr hm0 hfull hnm hby
    unfold Oper.wp execOp
    simp only [ho, resolve, invoke, builtin, Sem.run_bind, Sem.run_pure, Result.andThen_ok, List.map_toArray, List.map_cons, List.map_nil, hs, hx, hrun]
    exact hK _ _ (h ad' cap' w' h2 h3)
end Go.Proofs.YtfemmnhfllbgjaaGreatDoor
