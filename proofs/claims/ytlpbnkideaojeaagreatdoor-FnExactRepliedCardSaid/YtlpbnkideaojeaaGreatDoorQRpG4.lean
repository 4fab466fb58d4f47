/- Lemmas. -/
import Derived.Test.YtlpbnkideaojeaaGreatDoorQRpG3
import Derived.Deep.DrawnRows
import Derived.Lib.EndianBits
namespace Go.Proofs.YtlpbnkideaojeaaGreatDoor
open Go.RowKit
set_option maxRecDepth 100000
set_option linter.unusedSimpArgs false
set_option linter.unusedVariables false
section
variable {D : Type} (E : lN D)
def yc (w wr : World) (L : List D) (k : Nat) : Prop :=
 k ≤ L.length ∧ Below w.heap.size w wr ∧ w.heap.size < wr.heap.size ∧ ∃ (ts : List (List Value × D × List Nat)) (R : List Value), ts.map (·.2.1) = L.take k ∧ R.length = (L.length - k) * E.size ∧
  wr.ownsRow 0 E.ty E.size (.slice (some ⟨w.heap.size, 0, none⟩) L.length L.length) L.length (ts.flatMap (·.1) ++ R) ∧
  (∀ t ∈ ts, E.own wr t.1 t.2.1 t.2.2) ∧ (ts.flatMap (·.2.2)).Nodup ∧ ∀ b ∈ ts.flatMap (·.2.2), w.heap.size < b
variable {E}
theorem LG {w : World} {M : Array Value} {L : List D} (ho : (w.alloc (.cells M E.ty)).ownsRow w.heap.size E.ty E.size (.slice (some ⟨w.heap.size, 0, none⟩) L.length L.length) L.length M.toList) : yc E w (w.alloc (.cells M E.ty)) L 0 :=
 ⟨Nat.zero_le _, (Below.refl _ _).alloc (Nat.le_refl _) _, by simp, [], M.toList, by simp, by simpa using ho.1, by simpa using eG ho (fun k hk => Nat.zero_le _), by simp, by simp, by simp⟩
theorem LH {w wr w1 : World} {L : List D} {k : Nat} {cs : List Value} (h : yc E w wr L k) (hk : k < L.length) (hb : Below wr.heap.size wr w1) (hd : kJ E w1 wr.heap.size w1.heap.size cs L[k]) :
  (∀ r, r < E.size → ∃ u, w1.cell? ⟨w.heap.size, k * E.size + r, none⟩ = some u) ∧ (∀ j, w1.frozen? ⟨w.heap.size, j, none⟩ = false) ∧ w.heap.size < w1.heap.size ∧ yc E w (fJ w1 w.heap.size (k * E.size) cs) L (k + 1) := by
 obtain ⟨hle, hbw, hlt, ts, R, hts, hR, ho, hE, hnd, hlo⟩ := h
 obtain ⟨b2, hd1, hd2, hd3⟩ := hd
 have ho1 := aX ho hb
 have hlen : ∀ t ∈ ts, t.1.length = E.size := fun t ht => E.nT (E.nU (hE t ht))
 have htl : ts.length = k := by have := congrArg List.length hts; simp at this; omega
 have hfl : (ts.flatMap (fun t : List Value × D × List Nat => t.1)).length = k * E.size := by rw [Ac _ E.size ts hlen, htl]
 have hcl := E.nT (E.nU hd1)
 have hsz : (L.length - k) * E.size = E.size + (L.length - (k + 1)) * E.size := by
  rw [show L.length - k = (L.length - (k + 1)) + 1 by omega, Nat.succ_mul]; omega
 obtain ⟨g, cap, e1, hg, _, hgl, _, _, hc, hf⟩ := qx ho1 (by omega)
 simp only [Value.slice.injEq, Option.some.injEq, Addr.mk.injEq] at e1
 obtain ⟨⟨rfl, _, _⟩, _, _⟩ := e1
 refine ⟨fun r hr => ?_, hf, by have := hb.size; omega, by omega, ?_, ?_, ts ++ [(cs, L[k], b2)], R.drop E.size, ?_, ?_, ?_, ?_, ?_, ?_⟩
 ·have hin : k * E.size + r < (ts.flatMap (fun t : List Value × D × List Nat => t.1) ++ R).length := by rw [List.length_append, hfl, hR]; omega
  exact ⟨_, hc _ _ (List.getElem?_eq_getElem hin)⟩
 ·exact Mv _ (Nat.le_refl _) _ _ _ (hbw.trans (hb.mono hbw.size))
 ·rw [yx]; have := hb.size; omega
 ·rw [List.map_append, hts, List.take_succ_eq_append_getElem hk]; rfl
 ·rw [List.length_drop, hR, hsz]; omega
 ·have ho2 : w1.ownsRow 0 E.ty E.size (.slice (some ⟨w.heap.size, 0, none⟩) L.length L.length) L.length (ts.flatMap (·.1) ++ R.take E.size ++ R.drop E.size) := by rw [List.append_assoc, List.take_append_drop]; exact ho1
  have := Gy hg cs w1 _ _ _ ho2 (by rw [List.length_take, hR, hcl, hsz]; omega)
  rw [hfl] at this
  simpa using this
 ·intro t ht
  rcases List.mem_append.1 ht with h | h
  ·refine E.ji (hE t h) (by rw [yx]; exact hb.size) fun x hx => ?_
   have hxm : x ∈ ts.flatMap (·.2.2) := List.mem_flatMap.2 ⟨t, h, hx⟩
   rw [Ad _ _ _ _ x (by have := hlo x hxm; omega)]
   exact hb.block x (E.kr (hE t h) x hx)
  ·simp at h
   subst h
   refine E.ji hd1 (by rw [yx]; exact Nat.le_refl _) fun x hx => Ad _ _ _ _ x (by have := hd3 x hx; omega)
 ·rw [List.flatMap_append]
  refine jv hnd (by simpa using hd2) fun x hx hx2 => ?_
  obtain ⟨t, ht, hxt⟩ := List.mem_flatMap.1 hx
  have h1 := E.kr (hE t ht) x hxt
  have h2 : x ∈ b2 := by simpa using hx2
  have := hd3 x h2
  omega
 ·intro x hx
  rw [List.flatMap_append] at hx
  rcases List.mem_append.1 hx with h | h
  ·exact hlo x h
  ·have h2 : x ∈ b2 := by simpa using h
   have := hd3 x h2
   omega
theorem LJ {w wr : World} {L : List D} (h : yc E w wr L L.length) : aD E wr w.heap.size wr.heap.size (.slice (some ⟨w.heap.size, 0, none⟩) L.length L.length) L ∧ Below w.heap.size w wr := by
 obtain ⟨hle, hbw, hlt, ts, R, hts, hR, ho, hE, hnd, hlo⟩ := h
 have hR0 : R = [] := by rw [Nat.sub_self, Nat.zero_mul] at hR; exact List.length_eq_zero_iff.1 hR
 subst hR0
 rw [List.take_length] at hts
 have htl : ts.length = L.length := by rw [← hts]; simp
 refine ⟨⟨w.heap.size :: ts.flatMap (·.2.2), ⟨ts, hts.symm, by rw [htl]; simpa using ho, hE, by simp [Value.ownBlock]⟩, ?_, ?_⟩, hbw⟩
 ·exact List.nodup_cons.2 ⟨fun h => by have := hlo _ h; omega, hnd⟩
 ·intro b hb
  rcases List.mem_cons.1 hb with rfl | hb
  ·omega
  ·have := hlo b hb
   obtain ⟨t, ht, hbt⟩ := List.mem_flatMap.1 hb
   have := E.kr (hE t ht) b hbt
   omega
end
section
variable {D : Type} (mk1 : D → Nat → D) (c1 : D → Nat)
def jN : List D → Nat → List D
 | [], _ => []
 | d :: L, k => mk1 d k :: jN L (k + c1 d)
def dF : List D → Nat
 | [] => 0
 | d :: L => c1 d + dF L
theorem Mw (A B : List D) : dF c1 (A ++ B) = dF c1 A + dF c1 B := by
 induction A with
 | nil => simp [dF]
 | cons a A ih => simp only [List.cons_append, dF, ih]; omega
theorem Dv (L : List D) (j : Nat) (h : j < L.length) : dF c1 (L.take (j + 1)) = dF c1 (L.take j) + c1 L[j] := by
 rw [List.take_succ_eq_append_getElem h, Mw]; simp [dF]
theorem Dw (L : List D) (j : Nat) : dF c1 (L.take j) ≤ dF c1 L := by
 have h : dF c1 L = dF c1 (L.take j) + dF c1 (L.drop j) := by rw [← Mw, List.take_append_drop]
 omega
theorem oN (L : List D) (k : Nat) : (jN mk1 c1 L k).length = L.length := by
 induction L generalizing k with
 | nil => rfl
 | cons d L ih => simp [jN, ih]
theorem Vb (A B : List D) (k : Nat) : jN mk1 c1 (A ++ B) k = jN mk1 c1 A k ++ jN mk1 c1 B (k + dF c1 A) := by
 induction A generalizing k with
 | nil => simp [jN, dF]
 | cons d A ih => simp only [List.cons_append, jN, dF, ih]; rw [Nat.add_assoc]
theorem Gz (L : List D) (k j : Nat) (h : j < L.length) (h' : j < (jN mk1 c1 L k).length) : (jN mk1 c1 L k)[j] = mk1 L[j] (k + dF c1 (L.take j)) := by
 induction L generalizing k j with
 | nil => exact absurd h (Nat.not_lt_zero _)
 | cons d L ih =>
  cases j with
  | zero => simp [jN, dF]
  | succ j =>
   simp only [jN, List.getElem_cons_succ, List.take_succ_cons, dF]
   rw [ih (k + c1 d) j (by simpa using h) (by rw [oN]; simpa using h), Nat.add_assoc]
def jR (L : List D) (k j : Nat) : List D := jN mk1 c1 (L.take j) k ++ L.drop j
theorem Dx (L : List D) (k j : Nat) (h : j ≤ L.length) : (jR mk1 c1 L k j).length = L.length := by unfold jR; rw [List.length_append, oN, List.length_take, List.length_drop]; omega
theorem Mx (L : List D) (k j : Nat) (h : j < L.length) (h' : j < (jR mk1 c1 L k j).length) : (jR mk1 c1 L k j)[j] = L[j] := by
 have e : (jR mk1 c1 L k j)[j]? = L[j]? := by
  unfold jR
  rw [List.getElem?_append_right (by rw [oN, List.length_take]; omega), oN, List.length_take, Nat.min_eq_left (Nat.le_of_lt h), Nat.sub_self, List.getElem?_drop]
  rfl
 rw [List.getElem?_eq_getElem h', List.getElem?_eq_getElem h] at e
 exact Option.some.inj e
theorem MB (L : List D) (k j : Nat) (h : j < L.length) : (jR mk1 c1 L k j).set j (mk1 L[j] (k + dF c1 (L.take j))) = jR mk1 c1 L k (j + 1) := by
 unfold jR
 rw [List.set_append_right _ _ (by rw [oN, List.length_take]; omega), List.take_succ_eq_append_getElem h, Vb, oN, List.length_take, Nat.min_eq_left (Nat.le_of_lt h), Nat.sub_self, List.drop_eq_getElem_cons h]
 simp only [jN, List.set_cons_zero, List.append_assoc, List.cons_append, List.nil_append]
theorem MC (L : List D) (k : Nat) : jR mk1 c1 L k 0 = L := by simp [jR, jN]
theorem ME (L : List D) (k : Nat) : jR mk1 c1 L k L.length = jN mk1 c1 L k := by simp [jR]
end
section
variable {D : Type} (f : D → Int)
def eZ : List D → Int
 | [] => 0
 | d :: L => f d + eZ L
theorem Vd (A B : List D) : eZ f (A ++ B) = eZ f A + eZ f B := by
 induction A with
 | nil => simp [eZ]
 | cons a A ih => simp only [List.cons_append, eZ, ih]; omega
theorem Gh (L : List D) (j : Nat) (h : j < L.length) : eZ f (L.take (j + 1)) = eZ f (L.take j) + f L[j] := by
 rw [List.take_succ_eq_append_getElem h, Vd]; simp [eZ]
theorem zR (hf : ∀ d, 0 ≤ f d) (L : List D) : 0 ≤ eZ f L := by
 induction L with
 | nil => simp [eZ]
 | cons a A ih => have := hf a; simp only [eZ]; omega
theorem TG (hf : ∀ d, 0 ≤ f d) (L : List D) (d : D) (h : d ∈ L) : f d ≤ eZ f L := by
 induction L with
 | nil => cases h
 | cons a A ih =>
  have := zR f hf A
  have := hf a
  simp only [eZ]
  rcases List.mem_cons.1 h with rfl | h
  ·omega
  ·have := ih h; omega
end
open Go.ChangeShapes Go.WideShapes Go.ChangeAt Go.Joins Go.Deep in
theorem Ae {D : Type} {E : lN D} (d0 : D) {H : Type} {enc : TypeId × Value → H} {W : World} {base : Nat} {spare : Nat → Bool} {held : Bool} {t e : TypeId} {fuel : Nat} {v : Value} {x : DataW H × List MemPlace}
  (ht : Tryz.prog.underlying t = some (.slice e)) (hs : Tryz.prog.cellsOf e = E.size)
  (hel : ∀ cs n y, DataW.trod enc Tryz.prog W base spare held n e cs = some y → ∃ d : D, E.rd W cs d)
  (h : DataW.trod enc Tryz.prog W base spare held fuel t [v] = some x) : ∃ L : List D, aT E W v L := by
 obtain ⟨L, hL, hR⟩ := Ve (α := {cs : List Value // cs.length = E.size} × D) (⟨List.replicate E.size (.int .i64 0), by simp⟩, d0) (fun x => x.1.1) E.size (fun x => x.1.2) (fun x => E.rd W x.1.1 x.2) ht hs E.pos (fun cs n y hy => by
  obtain ⟨d, hd⟩ := hel cs n y hy
  exact ⟨(⟨cs, E.nT hd⟩, d), rfl, hd⟩) h
 refine ⟨L.map (·.2), L.map fun x => (x.1.1, x.2), by simp [Function.comp_def], ?_, fun t ht => ?_⟩
 ·simpa [List.flatMap_map] using hL
 ·obtain ⟨x, hx, rfl⟩ := List.mem_map.1 ht
  exact hR x hx
open Go.ChangeShapes Go.WideShapes Go.ChangeAt Go.Joins Go.Deep in
theorem MF {H : Type} {enc : TypeId × Value → H} {W : World} {base : Nat} {spare : Nat → Bool} {held : Bool} {t : TypeId} {f0 f1 : Field} {fuel : Nat} {cs : List Value} {x : DataW H × List MemPlace} (hs : Tryz.prog.underlying t = some (.struct #[f0, f1])) (hone : oneCellFields Tryz.prog #[f0, f1] = true) (hC : Tryz.prog.cellsOf t = 2)
  (h : DataW.trod enc Tryz.prog W base spare held fuel t cs = some x) :
  ∃ (c0 c1 : Value) (y0 y1 : DataW H × List MemPlace) (n : Nat), cs = [c0, c1] ∧ DataW.trod enc Tryz.prog W base spare held n f0.type [c0] = some y0 ∧ DataW.trod enc Tryz.prog W base spare held n f1.type [c1] = some y1 := by
 obtain ⟨y0, y1, n, hx, hl, h0, h1⟩ := trod_struct2 hs h
 obtain ⟨o0, k0⟩ := hone_of hone 0 f0 rfl
 obtain ⟨o1, k1⟩ := hone_of hone 1 f1 rfl
 rw [hC] at hl
 match cs, hl with
 | [c0, c1], _ => exact ⟨c0, c1, y0, y1, n, rfl, by simpa [o0, k0] using h0, by simpa [o1, k1] using h1⟩
structure qz where
 r : Int
 b : ByteArray
 e : Bool
 k : Bool
def MG : qz := ⟨0, ⟨#[]⟩, false, false⟩
abbrev Lr (p : qz) : List Value := [.int .i64 p.r, .string p.b, .bool p.e, .bool p.k]
abbrev pv (p : qz) : Value := .agg #[.int .i64 p.r, .string p.b, .bool p.e, .bool p.k]
structure jh where
 up : qz
 dn : qz
 went : Int
 came : Int
def Vf : jh := ⟨MG, MG, 0, 0⟩
abbrev rW (t : jh) : List Value := [.int .i64 t.up.r, .string t.up.b, .bool t.up.e, .bool t.up.k, .int .i64 t.dn.r, .string t.dn.b, .bool t.dn.e, .bool t.dn.k, .int .i64 t.went, .int .i64 t.came]
abbrev kI (t : jh) : Value := .agg #[.int .i64 t.up.r, .string t.up.b, .bool t.up.e, .bool t.up.k, .int .i64 t.dn.r, .string t.dn.b, .bool t.dn.e, .bool t.dn.k, .int .i64 t.went, .int .i64 t.came]
def lU (p : qz) : Bool := okB p.r p.b p.k
def jJ (t : jh) : Bool := lU t.up && lU t.dn && aQ t.went 0 1000000 && aQ t.came 0 1000000
theorem C8 {p : qz} (h : lU p = true) : 1 ≤ p.r ∧ p.r ≤ 2000 ∧ (p.b.size : Int) ≤ p.r ∧ (p.k = true → p.b.size = 0) := by
 unfold lU at h
 have h1 : 1 ≤ p.r ∧ p.r ≤ 2000 ∧ (p.b.size : Int) ≤ p.r := by
  unfold okB at h
  simp only [Bool.and_eq_true, decide_eq_true_eq] at h
  exact h.1
 refine ⟨h1.1, h1.2.1, h1.2.2, fun hk => ?_⟩
 rw [Dy h1, hk] at h
 simp at h
 rw [ByteArray.toList_eq] at h
 have : p.b.data.toList.length = 0 := by rw [h]; rfl
 simpa using this
theorem Vg {p : qz} (h1 : 1 ≤ p.r) (h2 : p.r ≤ 2000) (h3 : (p.b.size : Int) ≤ p.r) (h4 : p.k = true → p.b.size = 0) : lU p = true := by
 unfold lU
 rw [Dy ⟨h1, h2, h3⟩]
 cases hk : p.k
 ·rfl
 ·have : p.b.toList = [] := by rw [ByteArray.toList_eq]; exact List.eq_nil_of_length_eq_zero (by simpa using h4 hk)
  simp [this]
theorem F5 {t : jh} (h : jJ t = true) : lU t.up = true ∧ lU t.dn = true ∧ (0 ≤ t.went ∧ t.went ≤ 1000000) ∧ 0 ≤ t.came ∧ t.came ≤ 1000000 := by
 unfold jJ at h
 simp only [Bool.and_eq_true] at h
 obtain ⟨⟨⟨h1, h2⟩, h3⟩, h4⟩ := h
 exact ⟨h1, h2, jm h3, jm h4⟩
theorem Vh {t : jh} (h1 : lU t.up = true) (h2 : lU t.dn = true) (h3 : 0 ≤ t.went ∧ t.went ≤ 1000000) (h4 : 0 ≤ t.came ∧ t.came ≤ 1000000) : jJ t = true := by
 unfold jJ
 rw [h1, h2, Cv h3.1 h3.2, Cv h4.1 h4.2]; rfl
def BR (w : World) (base : Nat) (ad : Option Addr) (n cap : Nat) : Prop :=
 n ≤ cap ∧ cap ≤ maxLen ∧ (0 < n → ∃ blk, ad = some ⟨blk, 0, none⟩ ∧ base ≤ blk ∧ blk < w.heap.size ∧ ∀ j, j < n → (∃ u, uD u ∧ w.cell? ⟨blk, j, none⟩ = some u) ∧ w.frozen? ⟨blk, j, none⟩ = false)
theorem BR.kept {w w' : World} {base : Nat} {ad : Option Addr} {n cap : Nat} (h : BR w base ad n cap) (hs : w.heap.size ≤ w'.heap.size) (hk : ∀ k, base ≤ k → k < w.heap.size → w'.heap[k]? = w.heap[k]?) : BR w' base ad n cap := by
 obtain ⟨h1, h2, h3⟩ := h
 refine ⟨h1, h2, fun hn => ?_⟩
 obtain ⟨blk, rfl, hb, hl, hc⟩ := h3 hn
 refine ⟨blk, rfl, hb, by omega, fun j hj => ?_⟩
 have e := hk blk hb hl
 obtain ⟨⟨u, hu, GA⟩, hf⟩ := hc j hj
 exact ⟨⟨u, hu, (World.cell?_of_block (a := ⟨blk, j, none⟩) e).trans GA⟩, (World.frozen?_of_block (a := ⟨blk, j, none⟩) e).trans hf⟩
theorem BR.window {w : World} {base : Nat} {n cap blk : Nat} (h : BR w base (some ⟨blk, 0, none⟩) n cap) (i m cap' : Nat) (him : i + m ≤ n) (hc : m ≤ cap') (hc' : cap' ≤ maxLen) (ad : Option Addr) (ha : 0 < m → ad = some ⟨blk, i, none⟩) :
  ∃ xs : List Value, (∀ u ∈ xs, uD u) ∧ xs.length = m ∧ Reads w (.slice ad m cap') m 1 xs := by
 obtain ⟨h1, h2, h3⟩ := h
 have hall : ∀ m, i + m ≤ n → ∃ xs : List Value, (∀ u ∈ xs, uD u) ∧ xs.length = m ∧ ∀ j u, xs[j]? = some u → w.cell? ⟨blk, i + j, none⟩ = some u := by
  intro m
  induction m with
  | zero => intro _; exact ⟨[], by simp, rfl, by simp⟩
  | succ m ih =>
   intro hm
   obtain ⟨xs, a1, a2, a3⟩ := ih (by omega)
   obtain ⟨Vi, e, _, _, hcc⟩ := h3 (by omega)
   simp only [Option.some.injEq, Addr.mk.injEq, and_true] at e
   subst e
   obtain ⟨⟨u, hu, GA⟩, _⟩ := hcc (i + m) (by omega)
   refine ⟨xs ++ [u], Vj a1 u hu, by simp [a2], fun j v hj => ?_⟩
   by_cases hjm : j < m
   ·rw [List.getElem?_append_left (by omega)] at hj; exact a3 j v hj
   ·have : j = m := by
     have := (List.getElem?_eq_some_iff.1 hj).1
     simp at this; omega
    subst this
    rw [← a2] at hj
    simp at hj
    subst hj; exact GA
 obtain ⟨xs, a1, a2, a3⟩ := hall m him
 refine ⟨xs, a1, a2, by omega, ad, cap', rfl, hc, hc', fun hm => ?_⟩
 obtain ⟨Vi, e, _, hl, _⟩ := h3 (by omega)
 simp only [Option.some.injEq, Addr.mk.injEq, and_true] at e
 subst e
 exact ⟨blk, i, ha hm, hl, a3⟩
theorem BR.string {W : World} {base n cap : Nat} {ad : Option Addr} (h : BR W base ad n cap) (hn : n = 0 → ad = none ∨ ∃ b o, ad = some ⟨b, o, none⟩) :
  ∃ s : ByteArray, s.size = n ∧ (convert 127 9 (.slice ad n cap)).run Tryz.prog W = .ok (.string s) W := by
 by_cases h0 : n = 0
 ·subst h0
  rcases hn rfl with rfl | ⟨b, o, rfl⟩
  ·exact ⟨⟨#[]⟩, rfl, by simpa using Lib.run_convert_nil_bytes (P := Tryz.prog) W 127 9 5 cap Tryz.underlying127 Tryz.underlying5 Tryz.underlying9⟩
  ·exact ⟨⟨#[]⟩, rfl, by simpa using run_convert_bytes_back (P := Tryz.prog) W 127 9 5 ⟨b, o, none⟩ cap [] Tryz.underlying127 Tryz.underlying5 Tryz.underlying9 (fun j hj => by simp at hj)⟩
 ·obtain ⟨blk, rfl, hb, hl, hc⟩ := h.2.2 (by omega)
  obtain ⟨xs, a1, a2, a3⟩ := h.window (blk := blk) 0 n cap (by omega) h.1 h.2.1 (some ⟨blk, 0, none⟩) (fun _ => rfl)
  obtain ⟨l, hl1, hl2⟩ := MH xs a1
  refine ⟨⟨l.toArray⟩, by simp [ByteArray.size]; omega, ?_⟩
  have := run_convert_bytes_back (P := Tryz.prog) W 127 9 5 ⟨blk, 0, none⟩ cap l Tryz.underlying127 Tryz.underlying5 Tryz.underlying9 (fun j hj => by
   obtain ⟨_, oJ, cap', e, _, _, hh⟩ := a3
   obtain ⟨b', o', e2, _, Vk⟩ := hh (by omega)
   simp only [Value.slice.injEq, true_and] at e
   obtain ⟨rfl, rfl⟩ := e
   simp only [Option.some.injEq, Addr.mk.injEq, and_true] at e2
   obtain ⟨rfl, rfl⟩ := e2
   have h6 : ((⟨blk, 0, none⟩ : Addr).add j) = ⟨blk, 0 + j, none⟩ := by unfold Addr.add; split <;> simp_all
   rw [h6]
   exact Vk j _ (hl2 j hj))
  rw [show l.length = n by omega] at this
  exact this
end Go.Proofs.YtlpbnkideaojeaaGreatDoor
namespace Go.Proofs.YtlpbnkideaojeaaGreatDoor
set_option linter.unusedVariables false
def iM : Nat → Int → List Int
 | 0, r => [r]
 | k + 1, r => if r < 128 then [r] else (r % 128 + 128) :: iM k (r / 128)
def bytesOf (n f : Int) : List Int := if n < f then [n] else f :: iM 4 (n - f)
theorem GD (k : Nat) (r : Int) : 0 < (iM k r).length := by
 cases k with
 | zero => simp [iM]
 | succ k => simp only [iM]; split <;> simp
theorem Vl (k : Nat) : ∀ r : Int, (iM k r).length ≤ k + 1 := by
 induction k with
 | zero => intro r; simp [iM]
 | succ k ih => intro r; simp only [iM]; split <;> simp; exact ih _
theorem Af {k : Nat} {r : Int} (h : r < 128) : iM k r = [r] := by
 cases k with
 | zero => rfl
 | succ k => simp [iM, h]
theorem Dz {k : Nat} {r : Int} (h : 128 ≤ r) : iM (k + 1) r = (r % 128 + 128) :: iM k (r / 128) := by
 simp only [iM]; rw [if_neg (by omega)]
theorem Uk (k : Nat) : ∀ r : Int, 0 ≤ r → r < 128 ^ (k + 1) → ∀ x ∈ iM k r, 0 ≤ x ∧ x ≤ 255 := by
 induction k with
 | zero => intro r h0 h1 x hx; simp [iM] at hx h1; omega
 | succ k ih =>
  intro r h0 h1 x hx
  by_cases h : r < 128
  ·rw [Af h] at hx; simp at hx; omega
  ·rw [Dz (by omega)] at hx
   rcases List.mem_cons.1 hx with rfl | hx
   ·omega
   ·refine ih (r / 128) (by omega) ?_ x hx
    rw [Int.pow_succ] at h1
    omega
theorem Dp (n f : Int) : 0 < (bytesOf n f).length ∧ (bytesOf n f).length ≤ 6 := by
 unfold bytesOf
 split
 ·simp
 ·have := Vl 4 (n - f); simp; omega
end Go.Proofs.YtlpbnkideaojeaaGreatDoor
namespace Go.Proofs.YtlpbnkideaojeaaGreatDoor
open Go.RowKit
set_option maxRecDepth 100000
set_option linter.unusedSimpArgs false
set_option linter.unusedVariables false
def nE (s : ByteArray) (b : Int) : Int := if h : 0 < s.size then if 1 ≤ b ∧ b ≤ 8 then (s[0].toNat : Int) / pw b * pw b else -1 else -1
theorem Vm {s : ByteArray} {b : Int} (h : 0 < s.size) (h1 : 1 ≤ b) (h8 : b ≤ 8) : nE s b = (s[0].toNat : Int) / pw b * pw b := by simp [nE, h, h1, h8]
theorem Vn {s : ByteArray} {b : Int} (h : s.size = 0 ∨ aQ b 1 8 = false) : nE s b = -1 := by
 rcases h with h | h
 ·simp [nE, h]
 ·have := rX h
  unfold nE
  simp [this]
structure Fd where
 n : ByteArray
 v : ByteArray
def Fd.cs (f : Fd) : List Value := [.string f.n, .string f.v]
def Fd.fine (f : Fd) : Prop := f.n.size ≤ 9223372036854775807 ∧ f.v.size ≤ 9223372036854775807
def fv (L : List Fd) : List Value := L.flatMap Fd.cs
theorem Ab (s : Fd) : s.cs.length = 2 := rfl
theorem gY (L : List Fd) : (fv L).length = L.length * 2 := DC Fd.cs 2 Ab L
theorem kK (L : List Fd) (k : Nat) (h : k < L.length) : (fv L)[k * 2]? = some (.string L[k].n) ∧ (fv L)[k * 2 + 1]? = some (.string L[k].v) :=
 ⟨flat_get Fd.cs 2 Ab L k h 0 (by decide), flat_get Fd.cs 2 Ab L k h 1 (by decide)⟩
theorem nV (L : List Fd) : ∀ u ∈ fv L, u.oneCell' = true := by
 intro u hu
 obtain ⟨f, _, hf⟩ := List.mem_flatMap.1 hu
 simp only [Fd.cs, List.mem_cons, List.not_mem_nil, or_false] at hf
 rcases hf with rfl | rfl <;> rfl
theorem yA (A B : List Fd) : fv (A ++ B) = fv A ++ fv B := by simp [fv]
theorem Vo (s : Fd) (w : World) : Calls Tryz.prog 87 #[.agg #[.string s.n, .string s.v]] w fun x w' => x = .returned (.agg #[.string s.n, .string s.v]) ∧ Below w.heap.size w w' := by
 go_enter Tryz.func87, Tryz.ntmps87
 go_wp2
 go_returns
 exact ⟨rfl, (by repeat' (first | (with_reducible exact Below.refl _ _) | (with_reducible refine Below.drew ?_) | (with_reducible refine ay _ ?_) | (with_reducible refine aA ?_ _) | (refine ah ?_ (by with_reducible assumption)) | (with_reducible refine Below.setCell ?_ ?_ _) | go_size))⟩
theorem Vp (s : Fd) (w : World) : Calls Tryz.prog 107 #[.agg #[.string s.n, .string s.v], .agg #[.string s.n, .string s.v]] w fun x w' => x = .returned (.bool true) ∧ Below w.heap.size w w' := by
 go_enter Tryz.func107, Tryz.ntmps107
 go_wp2
 go_ret
 exact ⟨rfl, (by repeat' (first | (with_reducible exact Below.refl _ _) | (with_reducible refine Below.drew ?_) | (with_reducible refine ay _ ?_) | (with_reducible refine aA ?_ _) | (refine ah ?_ (by with_reducible assumption)) | (with_reducible refine Below.setCell ?_ ?_ _) | go_size))⟩
def rY (f : Fd) : Int := f.n.size + f.v.size
theorem MJ (f : Fd) (left : Int) (w : World) (hf : f.fine) (h0 : 0 ≤ left) (h1 : left ≤ 1048576) :
  Calls Tryz.prog 74 #[.agg #[.string f.n, .string f.v], .int .i64 left] w fun x w' => x = .returned (.int .i64 (if left - rY f < 0 then -1 else left - rY f)) ∧ Below w.heap.size w w' := by
 obtain ⟨hn, hv⟩ := hf
 unfold rY
 by_cases hA : left - f.n.size < 0
 ·have e : left - ((f.n.size : Int) + f.v.size) < 0 := by omega
  rw [if_pos e]
  go_enter Tryz.func74, Tryz.ntmps74
  go_wp2
  go_ret
  exact ⟨rfl, (by repeat' (first | (with_reducible exact Below.refl _ _) | (with_reducible refine Below.drew ?_) | (with_reducible refine ay _ ?_) | (with_reducible refine aA ?_ _) | (refine ah ?_ (by with_reducible assumption)) | (with_reducible refine Below.setCell ?_ ?_ _) | go_size))⟩
 ·by_cases hB : left - f.n.size - f.v.size < 0
  ·have e : left - ((f.n.size : Int) + f.v.size) < 0 := by omega
   rw [if_pos e]
   go_enter Tryz.func74, Tryz.ntmps74
   go_wp2
   go_ret
   exact ⟨rfl, (by repeat' (first | (with_reducible exact Below.refl _ _) | (with_reducible refine Below.drew ?_) | (with_reducible refine ay _ ?_) | (with_reducible refine aA ?_ _) | (refine ah ?_ (by with_reducible assumption)) | (with_reducible refine Below.setCell ?_ ?_ _) | go_size))⟩
  ·have e : ¬ left - ((f.n.size : Int) + f.v.size) < 0 := by omega
   rw [if_neg e, show left - ((f.n.size : Int) + f.v.size) = left - f.n.size - f.v.size by omega]
   clear e
   go_enter Tryz.func74, Tryz.ntmps74
   go_wp2
   go_ret
   exact ⟨rfl, (by repeat' (first | (with_reducible exact Below.refl _ _) | (with_reducible refine Below.drew ?_) | (with_reducible refine ay _ ?_) | (with_reducible refine aA ?_ _) | (refine ah ?_ (by with_reducible assumption)) | (with_reducible refine Below.setCell ?_ ?_ _) | go_size))⟩
def eB : List Fd → Int
 | [] => 0
 | f :: L => rY f + eB L
theorem MK (f : Fd) : 0 ≤ rY f := by unfold rY; omega
theorem Ag (L : List Fd) : 0 ≤ eB L := by
 induction L with
 | nil => simp [eB]
 | cons f L ih => have := MK f; simp only [eB]; omega
theorem ML (A B : List Fd) : eB (A ++ B) = eB A + eB B := by
 induction A with
 | nil => simp [eB]
 | cons f A ih => simp only [List.cons_append, eB, ih]; omega
theorem Vq (L : List Fd) (k : Nat) (h : k < L.length) : eB L = eB (L.take k) + rY L[k] + eB (L.drop (k + 1)) := by
 conv => lhs; rw [← List.take_append_drop k L, List.drop_eq_getElem_cons h, ML]
 simp only [eB]; omega
theorem Vr (L : List Fd) (k : Nat) (h : k < L.length) : eB (L.take (k + 1)) = eB (L.take k) + rY L[k] := by
 rw [List.take_succ_eq_append_getElem h, ML]; simp [eB]
set_option maxHeartbeats 1000000 in
theorem MN (L : List Fd) (v : Value) (left : Int) (w : World) (hr0 : Reads w v L.length 2 (fv L)) (hf : ∀ f ∈ L, f.fine) (h0 : 0 ≤ left) (h1 : left ≤ 1048576) :
  Calls Tryz.prog 39 #[v, .int .i64 left] w fun x w' => x = .returned (.int .i64 (if left - L.length - eB L < 0 then -1 else left - L.length - eB L)) ∧ Below w.heap.size w w' := by
 obtain ⟨hl, ad, cap, rfl, h2, h3, h4⟩ := hr0
 unfold maxLen at h3
 have hp := Ag L
 have H3 := hide h4
 have HF := hide hf
 clear h4 hf
 obtain ⟨R, hR⟩ : ∃ R : Int, R = if left - L.length - eB L < 0 then -1 else left - L.length - eB L := ⟨_, rfl⟩
 rw [← hR]
 have HR := hide hR
 clear hR
 by_cases h : left - L.length < 0
 ·have e := HR.out
  rw [if_pos (by omega)] at e
  subst e
  clear HR
  go_enter Tryz.func39, Tryz.ntmps39
  go_wp2_with fail
  go_ret
  exact ⟨rfl, (by repeat' (first | (with_reducible exact Below.refl _ _) | (with_reducible refine Below.drew ?_) | (with_reducible refine ay _ ?_) | (with_reducible refine aA ?_ _) | (refine ah ?_ (by with_reducible assumption)) | (with_reducible refine Below.setCell ?_ ?_ _) | go_size))⟩
 ·go_enter Tryz.func39, Tryz.ntmps39
  go_wp2_with fail
  go_loopw [1, 5] (fun lv i wr => ∃ (k : Nat), i = .int .i64 k ∧ k ≤ L.length ∧ lv = .int .i64 (left - L.length - eB (L.take k)) ∧ 0 ≤ left - L.length - eB (L.take k) ∧ Below w.heap.size w wr) (fun _ i _ => L.length - (intOf i).toNat)
  case atStart => exact ⟨0, rfl, Nat.zero_le _, by simp [eB], by simp [eB]; omega, Below.refl _ _⟩
  case round =>
   obtain ⟨k, rfl, hk, rfl, hpos, hb⟩ := hrel
   by_cases hlt : k < L.length
   ·obtain ⟨b, o, rfl, hbw, hc⟩ := H3.out (by omega)
    obtain ⟨s0, s1⟩ := kK L k hlt
    have hsp := Vq L k hlt
    have hsu := Vr L k hlt
    have hp2 := Ag (L.drop (k + 1))
    have hp3 := Ag (L.take k)
    have fT := HF.out _ (List.getElem_mem hlt)
    obtain ⟨f, bK⟩ : ∃ f, f = L[k] := ⟨_, rfl⟩
    rw [← bK] at s0 s1 hsp hsu fT
    have c0 : wr.cell? ⟨b, o + k * 2, none⟩ = some (.string f.n) := by rw [hb.cell (p := ⟨b, o + k * 2, none⟩) hbw]; exact hc _ _ s0
    have c1 : wr.cell? ⟨b, o + k * 2 + 1, none⟩ = some (.string f.v) := by rw [hb.cell (p := ⟨b, o + k * 2 + 1, none⟩) hbw]; exact hc _ _ s1
    clear hc s0 s1 bK
    have HS := hide hsp; have HU := hide hsu
    have hpf := MK f
    generalize hA : eB (L.take k) = A at *
    clear hsp hsu hA
    by_cases hneg : left - L.length - A - rY f < 0
    ·have e := HR.out
     rw [if_pos (by have := HS.out; omega)] at e
     subst e
     clear HR
     go_wp2_with fail
     refine (MJ f _ _ fT (by omega) (by omega)).mono ?_; rw [if_pos (by omega)]; rintro x w1 ⟨rfl, hb1⟩
     go_wp2_with fail
     go_ret
     exact ⟨rfl, ah hb hb1⟩
    ·go_wp2_with fail
     refine (MJ f _ _ fT (by omega) (by omega)).mono ?_; rw [if_neg (by omega)]; rintro x w1 ⟨rfl, hb1⟩
     go_wp2_with fail
     exact ⟨⟨k + 1, by go_num, by omega, int_eq (by have := HU.out; omega), by have := HU.out; omega, ah hb hb1⟩, by simp [intOf]; omega⟩
   ·obtain rfl : k = L.length := by omega
    rw [List.take_length] at hpos ⊢
    have e := HR.out
    rw [if_neg (by omega)] at e
    subst e
    clear HR
    go_wp2_with fail
    go_ret
    exact ⟨rfl, hb⟩
set_option maxHeartbeats 1000000 in
theorem MO (L : List Fd) (v : Value) (w : World) (hr0 : Reads w v L.length 2 (fv L)) (hL : L.length ≤ 1048576) :
  Calls Tryz.prog 55 #[v] w fun x w' => ∃ v', x = .returned v' ∧ w'.ownsRow w.heap.size 104 2 v' L.length (fv L) ∧ Below w.heap.size w w' := by
 obtain ⟨M, hM, hmk⟩ := Gb 35 104 (.agg #[.string ⟨#[]⟩, .string ⟨#[]⟩]) 2 32 Tryz.underlying35 (by kernel_rfl) rfl (by decide) (by decide) L.length hL
 obtain ⟨hl, ad, cap, rfl, h1, h2, h3⟩ := hr0
 have ho := Gc w M 104 2 L.length hM hL
 have H3 := hide h3
 clear h3
 unfold maxLen at h2
 go_enter Tryz.func55, Tryz.ntmps55
 go_wp2_with fail
 go_loopw [4] (fun i wr => ∃ (k : Nat) (xs : List Value), i = .int .i64 k ∧ k ≤ L.length ∧ wr.ownsRow w.heap.size 104 2 (.slice (some ⟨w.heap.size, 0, none⟩) L.length L.length) L.length xs ∧ (∀ j, j < k * 2 → xs[j]? = (fv L)[j]?) ∧ Below w.heap.size w wr) (fun i _ => L.length - (intOf i).toNat)
 case atStart => exact ⟨0, _, rfl, Nat.zero_le _, ho, fun j hj => absurd hj (by omega), (Below.refl _ _).alloc (Nat.le_refl _) _⟩
 case round =>
  obtain ⟨k, xs, rfl, hk, hown, hx, hb⟩ := hrel
  by_cases hlt : k < L.length
  ·obtain ⟨b, o, rfl, hbw, hc⟩ := H3.out (by omega)
   obtain ⟨s0, s1⟩ := kK L k hlt
   have c0 : wr.cell? ⟨b, o + k * 2, none⟩ = some (.string L[k].n) := by rw [hb.cell (p := ⟨b, o + k * 2, none⟩) hbw]; exact hc _ _ s0
   have c1 : wr.cell? ⟨b, o + k * 2 + 1, none⟩ = some (.string L[k].v) := by rw [hb.cell (p := ⟨b, o + k * 2 + 1, none⟩) hbw]; exact hc _ _ s1
   have HX := hide hx
   have S0 := hide s0; have S1 := hide s1; clear s0 s1
   have jS := hide hown
   clear hx hown hc
   go_wp2_with fail
   refine (Vo L[k] _).mono ?_; rintro x w1 ⟨rfl, hb1⟩
   have hown1 := aX jS.out hb1
   have hbb := ah hb hb1
   obtain ⟨g, cap', e1, e2, e3, e4, _, _, e5, e6⟩ := qx hown1 (by omega)
   simp only [Value.slice.injEq, Option.some.injEq, Addr.mk.injEq] at e1
   obtain ⟨⟨rfl, _, _⟩, _, rfl⟩ := e1
   have hl1 := hown1.1
   obtain ⟨u0, hu0⟩ : ∃ u, w1.cell? ⟨w.heap.size, k * 2, none⟩ = some u := ⟨_, e5 _ _ (List.getElem?_eq_getElem (by omega))⟩
   obtain ⟨u1, hu1⟩ : ∃ u, w1.cell? ⟨w.heap.size, k * 2 + 1, none⟩ = some u := ⟨_, e5 _ _ (List.getElem?_eq_getElem (by omega))⟩
   have HO := hide (mI (mI hown1 rfl (k * 2) (.string L[k].n)) rfl (k * 2 + 1) (.string L[k].v))
   have HP := hide (uE ((k + 1) * 2) (uE (k * 2 + 1) HX.out S0.out (by omega) rfl) S1.out (by simp; omega) (by omega))
   clear e5 e2 hown1
   go_wp2_with fail
   exact ⟨⟨k + 1, _, by go_num, by omega, HO.out, HP.out, (hbb.setCell (by simp) _).setCell (by simp) _⟩, by simp [intOf]; omega⟩
  ·obtain rfl : k = L.length := by omega
   have hxs : xs = fv L := GH hown.1 (gY L) hx
   subst hxs
   go_wp2_with fail
   go_ret
   exact ⟨_, rfl, hown, hb⟩
set_option maxHeartbeats 1000000 in
theorem eqFields (L : List Fd) (v v' : Value) (w : World) (hr0 : Reads w v L.length 2 (fv L)) (hr1 : Reads w v' L.length 2 (fv L)) :
  Calls Tryz.prog 68 #[v, v'] w fun x w' => x = .returned (.bool true) ∧ Below w.heap.size w w' := by
 obtain ⟨hl, ad, cap, rfl, h1, h2, h3⟩ := hr0
 obtain ⟨hl', oJ, cap', rfl, h1', h2', h3'⟩ := hr1
 have H3 := hide h3
 have GI := hide h3'
 clear h3 h3'
 unfold maxLen at h2 h2'
 go_enter Tryz.func68, Tryz.ntmps68
 go_wp2_with fail
 go_loopw [5] (fun i wr => ∃ (k : Nat), i = .int .i64 k ∧ k ≤ L.length ∧ Below w.heap.size w wr) (fun i _ => L.length - (intOf i).toNat)
 case atStart => exact ⟨0, rfl, Nat.zero_le _, Below.refl _ _⟩
 case round =>
  obtain ⟨k, rfl, hk, hb⟩ := hrel
  by_cases hlt : k < L.length
  ·obtain ⟨b, o, rfl, hbw, hc⟩ := H3.out (by omega)
   obtain ⟨b', o', rfl, oO, hc'⟩ := GI.out (by omega)
   obtain ⟨s0, s1⟩ := kK L k hlt
   have c0 : wr.cell? ⟨b, o + k * 2, none⟩ = some (.string L[k].n) := by rw [hb.cell (p := ⟨b, o + k * 2, none⟩) hbw]; exact hc _ _ s0
   have c1 : wr.cell? ⟨b, o + k * 2 + 1, none⟩ = some (.string L[k].v) := by rw [hb.cell (p := ⟨b, o + k * 2 + 1, none⟩) hbw]; exact hc _ _ s1
   have d0 : wr.cell? ⟨b', o' + k * 2, none⟩ = some (.string L[k].n) := by rw [hb.cell (p := ⟨b', o' + k * 2, none⟩) oO]; exact hc' _ _ s0
   have d1 : wr.cell? ⟨b', o' + k * 2 + 1, none⟩ = some (.string L[k].v) := by rw [hb.cell (p := ⟨b', o' + k * 2 + 1, none⟩) oO]; exact hc' _ _ s1
   have hsb := hb.size
   have hb1 : b < wr.heap.size := by omega
   have hb2 : b' < wr.heap.size := by omega
   clear hc hc' s0 s1
   go_wp2_with fail
   have q0 : ∀ y : Later wr, y.w.cell? ⟨b, o + k * 2, none⟩ = some (.string L[k].n) := fun y => (y.b.cell (p := ⟨b, o + k * 2, none⟩) hb1).trans c0
   have q1 : ∀ y : Later wr, y.w.cell? ⟨b, o + k * 2 + 1, none⟩ = some (.string L[k].v) := fun y => (y.b.cell (p := ⟨b, o + k * 2 + 1, none⟩) hb1).trans c1
   have r0 : ∀ y : Later wr, y.w.cell? ⟨b', o' + k * 2, none⟩ = some (.string L[k].n) := fun y => (y.b.cell (p := ⟨b', o' + k * 2, none⟩) hb2).trans d0
   have r1 : ∀ y : Later wr, y.w.cell? ⟨b', o' + k * 2 + 1, none⟩ = some (.string L[k].v) := fun y => (y.b.cell (p := ⟨b', o' + k * 2 + 1, none⟩) hb2).trans d1
   clear c0 c1 d0 d1
   have hne : Nonempty (Later wr) := ⟨⟨wr, Below.refl _ _⟩⟩; refine eH (by kernel_rfl) (by kernel_rfl) ?_
   repeat (go_big_quiet_step (fail))
   go_big_quiet_want; go_big_quiet_op; refine ⟨.bool true, fun y => gW (x := y) (Vp L[k] y.w), ?_⟩; go_big_quiet_on
   repeat (go_big_quiet_step (fail))
   refine wpQuiet_nil ?_; intro _ hw'; obtain ⟨y, hw''⟩ := hw'; subst hw''; have hby := y.b
   go_wp2_with fail
   go_roundw
   case rel => exact ⟨k + 1, by go_num, by omega, ah hb hby⟩
   case measure => simp [intOf]; omega
  ·go_wp2_with fail
   go_ret
   exact ⟨rfl, hb⟩
def mkT (k n : Nat) : List Value := (List.range n).map fun j => .string (bg (k + j))
theorem MP (k n : Nat) : (mkT k n).length = n := by simp [mkT]
theorem Ah (k n j : Nat) (h : j < n) : (mkT k n)[j]? = some (.string (bg (k + j))) := by simp [mkT, h]
set_option maxHeartbeats 1000000 in
theorem MQ (n k : Nat) (v : Value) (w : World) (hr0 : Reads w v n 2 (mkT k (n * 2))) (hk1 : k + n * 2 ≤ 1000000000) :
  Calls Tryz.prog 73 #[v, .int .i64 k] w fun x w' => x = .returned (.int .i64 ((k + n * 2 : Nat) : Int)) ∧ Below w.heap.size w w' := by
 obtain ⟨hl, ad, cap, rfl, h1, h2, h3⟩ := hr0
 have H3 := hide h3
 clear h3
 unfold maxLen at h2
 go_enter Tryz.func73, Tryz.ntmps73
 go_wp2_with fail
 go_loopw [1, 5] (fun kk i wr => ∃ (j : Nat), i = .int .i64 j ∧ kk = .int .i64 ((k + j * 2 : Nat) : Int) ∧ j ≤ n ∧ Below w.heap.size w wr) (fun _ i _ => n - (intOf i).toNat)
 case atStart => exact ⟨0, rfl, by simp, Nat.zero_le _, Below.refl _ _⟩
 case round =>
  obtain ⟨j, rfl, rfl, hj, hb⟩ := hrel
  by_cases hlt : j < n
  ·obtain ⟨b, o, rfl, hbw, hc⟩ := H3.out (by omega)
   obtain ⟨K, hK⟩ : ∃ K : Nat, K = k + j * 2 := ⟨_, rfl⟩
   have hK1 : k + (j * 2 + 1) = K + 1 := by omega
   have c0 : wr.cell? ⟨b, o + j * 2, none⟩ = some (.string (bg K)) := by rw [hb.cell (p := ⟨b, o + j * 2, none⟩) hbw, hK]; exact hc _ _ (Ah k (n * 2) (j * 2) (by omega))
   have c1 : wr.cell? ⟨b, o + j * 2 + 1, none⟩ = some (.string (bg (K + 1))) := by rw [hb.cell (p := ⟨b, o + j * 2 + 1, none⟩) hbw, ← hK1]; exact hc _ _ (Ah k (n * 2) (j * 2 + 1) (by omega))
   have hsb := hb.size
   have hb1 : b < wr.heap.size := by omega
   clear hc hK1
   have hkb : K + 1 ≤ 1000000000 := by omega
   rw [← hK]
   have HK := hide hK
   clear hK
   go_wp2_with fail
   have q0 : ∀ y : Later wr, y.w.cell? ⟨b, o + j * 2, none⟩ = some (.string (bg K)) := fun y => (y.b.cell (p := ⟨b, o + j * 2, none⟩) hb1).trans c0
   have hne : Nonempty (Later wr) := ⟨⟨wr, Below.refl _ _⟩⟩; refine eH (by kernel_rfl) (by kernel_rfl) ?_
   repeat (go_big_quiet_step (fail))
   go_big_quiet_want; go_big_quiet_op; refine ⟨.string (bg K), fun y => gW (x := y) ((fun u => qA K u (by omega)) y.w), ?_⟩; go_big_quiet_on
   repeat (go_big_quiet_step (fail))
   refine wpQuiet_nil ?_; intro _ hw'; obtain ⟨y, hw''⟩ := hw'; subst hw''; have hby := y.b
   clear q0 hne
   have c1' := (hby.cell (p := ⟨b, o + j * 2 + 1, none⟩) hb1).trans c1
   have hb1' : b < y.w.heap.size := Nat.lt_of_lt_of_le hb1 hby.size
   obtain ⟨wy, Ai⟩ : ∃ wy, wy = y.w := ⟨_, rfl⟩
   rw [← Ai] at hby c1' hb1' ⊢
   clear c0 c1 Ai y
   have hbb := ah hb hby
   go_wp2_with fail
   have q1 : ∀ y : Later wy, y.w.cell? ⟨b, o + j * 2 + 1, none⟩ = some (.string (bg (K + 1))) := fun y => (y.b.cell (p := ⟨b, o + j * 2 + 1, none⟩) hb1').trans c1'
   have hne : Nonempty (Later wy) := ⟨⟨wy, Below.refl _ _⟩⟩; refine eH (by kernel_rfl) (by kernel_rfl) ?_
   repeat (go_big_quiet_step (fail))
   go_big_quiet_want; go_big_quiet_op; refine ⟨.string (bg (K + 1)), fun y => gW (x := y) ((fun u => qA (K + 1) u (by omega)) y.w), ?_⟩; go_big_quiet_on
   repeat (go_big_quiet_step (fail))
   refine wpQuiet_nil ?_; intro _ hw'; obtain ⟨y2, hw''⟩ := hw'; subst hw''; have Vs := y2.b
   go_wp2_with fail
   go_roundw
   case rel => exact ⟨j + 1, by go_num, int_eq (by have := HK.out; omega), by omega, ah hbb Vs⟩
   case measure => simp [intOf]; omega
  ·obtain rfl : j = n := by omega
   go_wp2_with fail
   go_ret
   exact ⟨rfl, hb⟩
set_option maxHeartbeats 1000000 in
theorem MR (n k : Nat) (v : Value) (xs : List Value) (lo : Nat) (w : World) (ho : w.ownsRow lo 104 2 v n xs) (hk1 : k + n * 2 ≤ 1000000000) :
  Calls Tryz.prog 71 #[v, .int .i64 k] w fun x w' => x = .returned (.int .i64 ((k + n * 2 : Nat) : Int)) ∧ w'.ownsRow lo 104 2 v n (mkT k (n * 2)) ∧ w.grownBy w' v.ownBlock := by
 obtain ⟨ad, cap, rfl, h1, h2⟩ := bW ho
 unfold maxLen at h2
 have HO := hide ho
 clear ho
 go_enter Tryz.func71, Tryz.ntmps71
 go_wp2_with fail
 go_loopw [1, 5] (fun kk i wr => ∃ (j : Nat) (ys : List Value), i = .int .i64 j ∧ kk = .int .i64 ((k + j * 2 : Nat) : Int) ∧ j ≤ n ∧ wr.ownsRow lo 104 2 (.slice ad n cap) n ys ∧ (∀ t, t < j * 2 → ys[t]? = (mkT k (n * 2))[t]?) ∧ w.grownBy wr (Value.slice ad n cap).ownBlock) (fun _ i _ => n - (intOf i).toNat)
 case atStart => exact ⟨0, _, rfl, by simp, Nat.zero_le _, HO.out, fun t ht => absurd ht (by omega), GJ _ _⟩
 case round =>
  obtain ⟨j, ys, rfl, rfl, hj, hown, hy, ht⟩ := hrel
  by_cases hlt : j < n
  ·obtain ⟨K, hK⟩ : ∃ K : Nat, K = k + j * 2 := ⟨_, rfl⟩
   have hkb : K + 1 ≤ 1000000000 := by omega
   rw [← hK]
   have HK := hide hK
   have HT := hide ht
   have HY := hide hy
   have jS := hide hown
   clear hy hown hK ht
   go_wp2_with fail
   refine (qA K _ (by omega)).mono ?_; rintro x w1 ⟨rfl, hb1⟩
   have hown1 := aX jS.out hb1
   obtain ⟨g, cap', e1, e2, e3, e4, _, _, e5, e6⟩ := qx hown1 (by omega)
   simp only [Value.slice.injEq] at e1
   obtain ⟨rfl, _, rfl⟩ := e1
   have hl1 := hown1.1
   obtain ⟨u0, hu0⟩ : ∃ u, w1.cell? ⟨g, j * 2, none⟩ = some u := ⟨_, e5 _ _ (List.getElem?_eq_getElem (by omega))⟩
   have wH := hide (mI (g := g) hown1 rfl (j * 2) (.string (bg K)))
   have Vt := hide (uE (j * 2 + 1) (a := .string (bg K)) HY.out (by rw [Ah k (n * 2) (j * 2) (by omega), HK.out]) (by omega) rfl)
   have ht1 := hide (yB (DF HT.out (DI hb1 _)) ⟨g, j * 2, none⟩ (.string (bg K)) (by rfl))
   clear e5 e2 hown1
   go_wp2_with fail
   generalize w1.setCell ⟨g, j * 2, none⟩ (.string (bg K)) = w2 at *
   refine (qA (K + 1) _ (by omega)).mono ?_; rintro x w3 ⟨rfl, hb3⟩
   have hown3 := aX wH.out hb3
   obtain ⟨g', Vu, f1, f2, f3, f4, _, _, f5, f6⟩ := qx hown3 (by omega)
   simp only [Value.slice.injEq, Option.some.injEq, Addr.mk.injEq] at f1
   obtain ⟨⟨rfl, _, _⟩, _, rfl⟩ := f1
   have hl3 := hown3.1
   obtain ⟨u1, hu1⟩ : ∃ u, w3.cell? ⟨g, j * 2 + 1, none⟩ = some u := ⟨_, f5 _ _ (List.getElem?_eq_getElem (by omega))⟩
   have lK := hide (mI (g := g) hown3 rfl (j * 2 + 1) (.string (bg (K + 1))))
   have GK := hide (uE ((j + 1) * 2) (a := .string (bg (K + 1))) Vt.out (by rw [Ah k (n * 2) (j * 2 + 1) (by omega), HK.out]; rfl) (by rw [List.length_set] at hl3 ⊢; omega) (by omega))
   have ht3 := hide (yB (DF ht1.out (DI hb3 _)) ⟨g, j * 2 + 1, none⟩ (.string (bg (K + 1))) (by rfl))
   clear f5 f2 hown3
   go_wp2_with fail
   exact ⟨⟨j + 1, _, by go_num, int_eq (by have := HK.out; omega), by omega, lK.out, GK.out, ht3.out⟩, by simp [intOf]; omega⟩
  ·obtain rfl : j = n := by omega
   have hys : ys = mkT k (j * 2) := GH hown.1 (MP _ _) hy
   subst hys
   go_wp2_with fail
   go_ret
   exact ⟨rfl, hown, ht⟩
structure Fr where
 k : Int
 fl : Int
 st : Int
 b : ByteArray
theorem seven {s : ByteArray} (h : 7 ≤ s.size) : ∃ a0 a1 k f c0 c1 c2 r, cB s = a0 :: a1 :: k :: f :: c0 :: c1 :: c2 :: r := by
 have hl := mJ s
 match e : cB s with
 | [] => rw [e] at hl; simp at hl; omega
 | [_] => rw [e] at hl; simp at hl; omega
 | [_, _] => rw [e] at hl; simp at hl; omega
 | [_, _, _] => rw [e] at hl; simp at hl; omega
 | [_, _, _, _] => rw [e] at hl; simp at hl; omega
 | [_, _, _, _, _] => rw [e] at hl; simp at hl; omega
 | [_, _, _, _, _, _] => rw [e] at hl; simp at hl; omega
 | a0 :: a1 :: k :: f :: c0 :: c1 :: c2 :: r => exact ⟨a0, a1, k, f, c0, c1, c2, r, rfl⟩
def rZ : Nat → Nat → List Int
 | 0, _ => []
 | f + 1, n => if n < 10 then [48 + (n : Int)] else rZ f (n / 10) ++ [48 + ((n % 10 : Nat) : Int)]
def iK (n : Nat) : List Int := rZ (n + 1) n
theorem MS : ∀ (f f' n : Nat), n < f → n < f' → rZ f n = rZ f' n
 | 0, _, _, h, _ => absurd h (Nat.not_lt_zero _)
 | _ + 1, 0, _, _, h => absurd h (Nat.not_lt_zero _)
 | f + 1, f' + 1, n, h, h' => by
  unfold rZ
  split
  ·rfl
  ·rename_i hn
   rw [MS f f' (n / 10) (by omega) (by omega)]
theorem DJ {n : Nat} (h : ¬ n < 10) : iK n = iK (n / 10) ++ [48 + ((n % 10 : Nat) : Int)] := by
 show rZ (n + 1) n = _
 rw [rZ, if_neg h]
 unfold iK
 rw [MS n (n / 10 + 1) (n / 10) (by omega) (by omega)]
theorem DK {n : Nat} (h : n < 10) : iK n = [48 + (n : Int)] := by
 show rZ (n + 1) n = _
 rw [rZ, if_pos h]
theorem Vv (n : Nat) : ∀ x ∈ iK n, 48 ≤ x ∧ x ≤ 57 := by
 induction n using Nat.strongRecOn with
 | _ n ih =>
  by_cases h : n < 10
  ·rw [DK h]; intro x hx; simp at hx; omega
  ·rw [DJ h]
   intro x hx
   rcases List.mem_append.1 hx with hx | hx
   ·exact ih (n / 10) (by omega) x hx
   ·simp at hx; omega
theorem GL : ∀ (k n : Nat), n < 10 ^ k → 0 < k → (iK n).length ≤ k
 | 0, _, _, h => absurd h (Nat.lt_irrefl _)
 | k + 1, n, h, _ => by
  by_cases h1 : n < 10
  ·rw [DK h1]; simp
  ·rw [DJ h1]
   have hk : 0 < k := by
    rcases Nat.eq_zero_or_pos k with e | e
    ·subst e; simp at h; omega
    ·exact e
   have := GL k (n / 10) (by rw [Nat.pow_succ] at h; omega) hk
   simp; omega
theorem MU : ∀ (n k : Nat) (acc : ByteArray), (nW n k acc).size ≤ acc.size + n
 | 0, k, acc => by simp [nW]
 | n + 1, k, acc => by
  unfold nW
  split
  ·omega
  ·have := MU n (k / 10) (strOf [48 + ((k % 10 : Nat) : Int)] ++ acc)
   rw [ByteArray.size_append, oP] at this
   simp only [List.length_singleton] at this
   omega
theorem Aj (k : Nat) : (bg k).size ≤ k + 2 := by
 unfold bg
 split
 ·have : (⟨#[109, 48]⟩ : ByteArray).size = 2 := rfl
  omega
 ·have := MU k k ⟨#[]⟩
  have h0 : (⟨#[]⟩ : ByteArray).size = 0 := rfl
  have h1 : (⟨#[109]⟩ : ByteArray).size = 1 := rfl
  rw [ByteArray.size_append]
  omega
structure bL (w : World) (b : Nat) (ty : TypeId) (A C : List Value) (o : Nat) (cs : List Value) : Prop where
 row : aj w b ty (A ++ cs ++ C)
 off : A.length = o
section
variable {w w' : World} {b o : Nat} {ty : TypeId} {A C cs : List Value}
theorem bL.lt (h : bL w b ty A C o cs) : b < w.heap.size := h.row.lt
theorem Vw (A cs C : List Value) {j : Nat} {u : Value} (hu : cs[j]? = some u) : (A ++ cs ++ C)[A.length + j]? = some u := by
 have hj : j < cs.length := (List.getElem?_eq_some_iff.1 hu).1
 rw [List.append_assoc, List.getElem?_append_right (by omega), Nat.add_sub_cancel_left, List.getElem?_append_left hj]
 exact hu
theorem bL.cell (h : bL w b ty A C o cs) {j : Nat} {u : Value} (hu : cs[j]? = some u) : w.cell? ⟨b, o + j, none⟩ = some u := by
 have := h.off
 subst this
 exact h.row.cell (Vw A cs C hu)
theorem bL.cell0 (h : bL w b ty A C o cs) {u : Value} (hu : cs[0]? = some u) : w.cell? ⟨b, o, none⟩ = some u := h.cell (j := 0) hu
theorem bL.frozen (h : bL w b ty A C o cs) (j : Nat) : w.frozen? ⟨b, j, none⟩ = false := h.row.frozen j
theorem bL.kept (h : bL w b ty A C o cs) (hk : w'.heap[b]? = w.heap[b]?) : bL w' b ty A C o cs := ⟨h.row.kept hk, h.off⟩
theorem bL.new (h : bL w b ty A C o cs) (hb : Below w.heap.size w w') : bL w' b ty A C o cs := ⟨h.row.new hb, h.off⟩
theorem bL.alloc (h : bL w b ty A C o cs) (x : Obj) : bL (w.alloc x) b ty A C o cs := ⟨h.row.alloc x, h.off⟩
theorem bL.far (h : bL w b ty A C o cs) (p : Addr) (v : Value) (hp : p.block ≠ b) : bL (w.setCell p v) b ty A C o cs := ⟨h.row.far p v hp, h.off⟩
theorem bL.drewN (h : bL w b ty A C o cs) (n : Nat) : bL (w.drewN n) b ty A C o cs := ⟨h.row.drewN n, h.off⟩
theorem Vx (A cs C : List Value) (j : Nat) (hj : j < cs.length) (v : Value) : (A ++ cs ++ C).set (A.length + j) v = A ++ cs.set j v ++ C := by
 rw [List.append_assoc, List.set_append_right _ _ (by omega), Nat.add_sub_cancel_left, List.set_append_left _ _ hj, List.append_assoc]
theorem bL.set (h : bL w b ty A C o cs) (j : Nat) (v : Value) (hj : j < cs.length) : bL (w.setCell ⟨b, o + j, none⟩ v) b ty A C o (cs.set j v) := by
 have e := h.off
 subst e
 refine ⟨?_, rfl⟩
 rw [← Vx A cs C j hj v]
 exact h.row.set _ v
end
def qB (w : World) (v v' : Value) : Prop := ∀ k, v'.ownBlock = some k → v.ownBlock = some k ∨ w.heap.size ≤ k
theorem qB.refl (w : World) (v : Value) : qB w v v := fun _ h => .inl h
theorem qB.trans {w w' : World} {a b c : Value} (h : qB w a b) (k : qB w' b c) (hs : w.heap.size ≤ w'.heap.size) : qB w a c := fun q hq => by
 rcases k q hq with e | e
 ·exact h q e
 ·exact .inr (Nat.le_trans hs e)
theorem apart (r : Int) (b : ByteArray) (e k : Bool) (w : World) (hb : b.size ≤ 281474976710656) :
  Calls Tryz.prog 135 #[.agg #[.int .i64 r, .string b, .bool e, .bool k]] w fun x w' => x = .returned (.agg #[.int .i64 r, .string b, .bool e, .bool k]) ∧ Below w.heap.size w w' := by
 go_enter Tryz.func135, Tryz.ntmps135
 go_wp2_with fail
 refine (clone b _ hb).mono ?_; rintro x w1 ⟨rfl, hb1⟩; have hz1 := hb1.size; (try simp at hz1); have hc1 := fun o => hb1.cell (p := ⟨w.heap.size, o, none⟩) (by first | (simp; done) | (simp; omega) | omega); have hf1 := fun o => hb1.frozen (p := ⟨w.heap.size, o, none⟩) (by first | (simp; done) | (simp; omega) | omega); have uw := fun o => hb1.cell (p := ⟨w.heap.size + 1, o, none⟩) (by first | (simp; done) | (simp; omega) | omega); have uy := fun o => hb1.frozen (p := ⟨w.heap.size + 1, o, none⟩) (by first | (simp; done) | (simp; omega) | omega)
 go_wp2_with fail
 refine bodyPost_ret (v := .agg #[.int .i64 r, .string b, .bool e, .bool k]) (by simp [results, Tryz.results135, go_sem, *]) rfl ?_
 exact ⟨rfl, (by repeat' (first | (with_reducible exact Below.refl _ _) | (with_reducible refine Below.drew ?_) | (with_reducible refine ay _ ?_) | (with_reducible refine aA ?_ _) | (refine ah ?_ (by with_reducible assumption)) | (with_reducible refine Below.setCell ?_ ?_ _) | go_size))⟩
theorem endP (r : Int) (b : ByteArray) (e k : Bool) (w : World) (hb : b.size ≤ 281474976710656) :
  Calls Tryz.prog 105 #[.agg #[.int .i64 r, .string b, .bool e, .bool k]] w fun x w' => x = .returned (.agg #[.int .i64 r, .string b, .bool true, .bool k]) ∧ Below w.heap.size w w' := by
 go_enter Tryz.func105, Tryz.ntmps105
 go_wp2_with fail
 refine (apart r b true k _ hb).mono ?_; rintro x w1 ⟨rfl, hb1⟩; have hz1 := hb1.size; (try simp at hz1); have hc1 := fun o => hb1.cell (p := ⟨w.heap.size, o, none⟩) (by first | (simp; done) | (simp; omega) | omega); have hf1 := fun o => hb1.frozen (p := ⟨w.heap.size, o, none⟩) (by first | (simp; done) | (simp; omega) | omega); have uw := fun o => hb1.cell (p := ⟨w.heap.size + 1, o, none⟩) (by first | (simp; done) | (simp; omega) | omega); have uy := fun o => hb1.frozen (p := ⟨w.heap.size + 1, o, none⟩) (by first | (simp; done) | (simp; omega) | omega)
 go_wp2_with fail
 refine bodyPost_ret (v := .agg #[.int .i64 r, .string b, .bool true, .bool k]) (by simp [results, Tryz.results105, go_sem, *]) rfl ?_
 exact ⟨rfl, (by repeat' (first | (with_reducible exact Below.refl _ _) | (with_reducible refine Below.drew ?_) | (with_reducible refine ay _ ?_) | (with_reducible refine aA ?_ _) | (refine ah ?_ (by with_reducible assumption)) | (with_reducible refine Below.setCell ?_ ?_ _) | go_size))⟩
theorem MV (r : Int) (b : ByteArray) (e k : Bool) (w : World) (hb : b.size ≤ maxLen) (hb' : b.size ≤ 281474976710656) :
  Calls Tryz.prog 104 #[.agg #[.int .i64 r, .string b, .bool e, .bool k], .func (.func 105) #[.agg #[.int .i64 r, .string b, .bool e, .bool k]] #[]] w fun x w' => x = .returned (if okB r b k then .agg #[.int .i64 r, .string b, .bool true, .bool k] else .agg #[.int .i64 0, .string ⟨#[]⟩, .bool false, .bool false]) ∧ Below w.heap.size w w' := by
 cases hv : okB r b k
 ·go_enter Tryz.func104, Tryz.ntmps104
  go_wp2_with fail
  refine (right r b e k _ hb).mono ?_; rw [hv]; rintro x w1 ⟨rfl, hb1⟩; have hz1 := hb1.size; (try simp at hz1); have hc1 := fun o => hb1.cell (p := ⟨w.heap.size, o, none⟩) (by first | (simp; done) | (simp; omega) | omega); have hf1 := fun o => hb1.frozen (p := ⟨w.heap.size, o, none⟩) (by first | (simp; done) | (simp; omega) | omega); have uw := fun o => hb1.cell (p := ⟨w.heap.size + 1, o, none⟩) (by first | (simp; done) | (simp; omega) | omega); have uy := fun o => hb1.frozen (p := ⟨w.heap.size + 1, o, none⟩) (by first | (simp; done) | (simp; omega) | omega)
  go_wp2_with fail
  refine bodyPost_ret (v := .agg #[.int .i64 0, .string ⟨#[]⟩, .bool false, .bool false]) (by simp [results, Tryz.results104, go_sem, *]) rfl ?_
  exact ⟨rfl, (by repeat' (first | (with_reducible exact Below.refl _ _) | (with_reducible refine Below.drew ?_) | (with_reducible refine ay _ ?_) | (with_reducible refine aA ?_ _) | (refine ah ?_ (by with_reducible assumption)) | (with_reducible refine Below.setCell ?_ ?_ _) | go_size))⟩
 ·go_enter Tryz.func104, Tryz.ntmps104
  go_wp2_with fail
  refine (right r b e k _ hb).mono ?_; rw [hv]; rintro x w1 ⟨rfl, hb1⟩; have hz1 := hb1.size; (try simp at hz1); have hc1 := fun o => hb1.cell (p := ⟨w.heap.size, o, none⟩) (by first | (simp; done) | (simp; omega) | omega); have hf1 := fun o => hb1.frozen (p := ⟨w.heap.size, o, none⟩) (by first | (simp; done) | (simp; omega) | omega); have uw := fun o => hb1.cell (p := ⟨w.heap.size + 1, o, none⟩) (by first | (simp; done) | (simp; omega) | omega); have uy := fun o => hb1.frozen (p := ⟨w.heap.size + 1, o, none⟩) (by first | (simp; done) | (simp; omega) | omega)
  go_wp2_with fail
  refine (endP r b e k _ hb').mono ?_; rintro x w2 ⟨rfl, hb2⟩; have hz2 := hb2.size; (try simp at hz2); have hc2 := fun o => hb2.cell (p := ⟨w.heap.size, o, none⟩) (by first | (simp; done) | (simp; omega) | omega); have hf2 := fun o => hb2.frozen (p := ⟨w.heap.size, o, none⟩) (by first | (simp; done) | (simp; omega) | omega); have hcn2 := fun o => hb2.cell (p := ⟨w.heap.size + 1, o, none⟩) (by first | (simp; done) | (simp; omega) | omega); have hfn2 := fun o => hb2.frozen (p := ⟨w.heap.size + 1, o, none⟩) (by first | (simp; done) | (simp; omega) | omega)
  go_wp2_with fail
  refine bodyPost_ret (v := .agg #[.int .i64 r, .string b, .bool true, .bool k]) (by simp [results, Tryz.results104, go_sem, *]) rfl ?_
  exact ⟨rfl, (by repeat' (first | (with_reducible exact Below.refl _ _) | (with_reducible refine Below.drew ?_) | (with_reducible refine ay _ ?_) | (with_reducible refine aA ?_ _) | (refine ah ?_ (by with_reducible assumption)) | (with_reducible refine Below.setCell ?_ ?_ _) | go_size))⟩
theorem Tp (r : Int) (b : ByteArray) (e k : Bool) (w : World) (hb : b.size ≤ maxLen) (hb' : b.size ≤ 281474976710656) :
  Calls Tryz.prog 65 #[.agg #[.int .i64 r, .string b, .bool e, .bool k]] w fun x w' => x = .returned (if okB r b k then .agg #[.int .i64 r, .string b, .bool true, .bool k] else .agg #[.int .i64 0, .string ⟨#[]⟩, .bool false, .bool false]) ∧ Below w.heap.size w w' := by
 cases hv : okB r b k
 ·go_enter Tryz.func65, Tryz.ntmps65
  go_wp2_with fail
  refine (MV r b e k _ hb hb').mono ?_; rw [hv]; rintro x w1 ⟨rfl, hb1⟩; have hz1 := hb1.size; (try simp at hz1); have hc1 := fun o => hb1.cell (p := ⟨w.heap.size, o, none⟩) (by first | (simp; done) | (simp; omega) | omega); have hf1 := fun o => hb1.frozen (p := ⟨w.heap.size, o, none⟩) (by first | (simp; done) | (simp; omega) | omega); have uw := fun o => hb1.cell (p := ⟨w.heap.size + 1, o, none⟩) (by first | (simp; done) | (simp; omega) | omega); have uy := fun o => hb1.frozen (p := ⟨w.heap.size + 1, o, none⟩) (by first | (simp; done) | (simp; omega) | omega)
  go_wp2_with fail
  refine bodyPost_ret (v := .agg #[.int .i64 0, .string ⟨#[]⟩, .bool false, .bool false]) (by simp [results, Tryz.results65, go_sem, *]) rfl ?_
  exact ⟨rfl, (by repeat' (first | (with_reducible exact Below.refl _ _) | (with_reducible refine Below.drew ?_) | (with_reducible refine ay _ ?_) | (with_reducible refine aA ?_ _) | (refine ah ?_ (by with_reducible assumption)) | (with_reducible refine Below.setCell ?_ ?_ _) | go_size))⟩
 ·go_enter Tryz.func65, Tryz.ntmps65
  go_wp2_with fail
  refine (MV r b e k _ hb hb').mono ?_; rw [hv]; rintro x w1 ⟨rfl, hb1⟩; have hz1 := hb1.size; (try simp at hz1); have hc1 := fun o => hb1.cell (p := ⟨w.heap.size, o, none⟩) (by first | (simp; done) | (simp; omega) | omega); have hf1 := fun o => hb1.frozen (p := ⟨w.heap.size, o, none⟩) (by first | (simp; done) | (simp; omega) | omega); have uw := fun o => hb1.cell (p := ⟨w.heap.size + 1, o, none⟩) (by first | (simp; done) | (simp; omega) | omega); have uy := fun o => hb1.frozen (p := ⟨w.heap.size + 1, o, none⟩) (by first | (simp; done) | (simp; omega) | omega)
  go_wp2_with fail
  refine bodyPost_ret (v := .agg #[.int .i64 r, .string b, .bool true, .bool k]) (by simp [results, Tryz.results65, go_sem, *]) rfl ?_
  exact ⟨rfl, (by repeat' (first | (with_reducible exact Below.refl _ _) | (with_reducible refine Below.drew ?_) | (with_reducible refine ay _ ?_) | (with_reducible refine aA ?_ _) | (refine ah ?_ (by with_reducible assumption)) | (with_reducible refine Below.setCell ?_ ?_ _) | go_size))⟩
def mk (k : Int) (n : Nat) : List Value := (List.range n).map fun (j : Nat) => Value.int .i64 (k + j)
theorem kC (x : Int) (w : World) : Calls Tryz.prog 43 #[.int .i64 x] w fun e w' => e = .returned (.bool (fP x)) ∧ w' = w := by
 go_enter Tryz.func43, Tryz.ntmps43
 go_wp2_with fail
 refine (jP _ _ _ _).mono ?_; rintro e w1 ⟨rfl, hsame⟩; obtain rfl := hsame.symm; clear hsame
 go_wp2_with fail
 go_ret
 exact ⟨rfl, rfl⟩
theorem mK (x : Int) (w : World) : Calls Tryz.prog 89 #[.int .i64 x] w fun e w' => e = .returned (.bool (fP x)) ∧ w' = w := by
 go_enter Tryz.func89, Tryz.ntmps89
 go_wp2_with fail
 refine (iX _ _ _ _).mono ?_; rintro e w1 ⟨rfl, hsame⟩; obtain rfl := hsame.symm; clear hsame
 go_wp2_with fail
 go_ret
 exact ⟨rfl, rfl⟩
end Go.Proofs.YtlpbnkideaojeaaGreatDoor
