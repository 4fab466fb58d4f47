/- Lemmas. -/
import Derived.Test.YtlpbnkideaojeaaGreatDoorQRpG2
import Derived.Deep.WholeRow
namespace Go.Proofs.YtlpbnkideaojeaaGreatDoor
open Go.RowKit
set_option maxRecDepth 100000
set_option linter.unusedSimpArgs false
set_option linter.unusedVariables false
structure lN (D : Type) where
 size : Nat
 ty : TypeId
 rd : World → List Value → D → Prop
 own : World → List Value → D → List Nat → Prop
 pos : 0 < size
 nT : ∀ {w : World} {cs : List Value} {d : D}, rd w cs d → cs.length = size
 Dc : ∀ {w : World} {cs : List Value} {d : D}, rd w cs d → ∀ u ∈ cs, u.oneCell' = true
 Df : ∀ {w w' : World} {cs : List Value} {d : D}, rd w cs d → Below w.heap.size w w' → rd w' cs d
 nU : ∀ {w : World} {cs : List Value} {d : D} {bs : List Nat}, own w cs d bs → rd w cs d
 ji : ∀ {w w' : World} {cs : List Value} {d : D} {bs : List Nat}, own w cs d bs → w.heap.size ≤ w'.heap.size → (∀ b ∈ bs, w'.heap[b]? = w.heap[b]?) → own w' cs d bs
 kr : ∀ {w : World} {cs : List Value} {d : D} {bs : List Nat}, own w cs d bs → ∀ b ∈ bs, b < w.heap.size
theorem Ac {α : Type} (f : α → List Value) (s : Nat) (L : List α) (hf : ∀ x ∈ L, (f x).length = s) : (L.flatMap f).length = L.length * s := by
 induction L with
 | nil => simp
 | cons x L ih => simp only [List.flatMap_cons, List.length_append, List.length_cons, hf x (by simp), ih (fun y hy => hf y (by simp [hy])), Nat.succ_mul]; omega
theorem MW {α : Type} (f : α → List Value) (s : Nat) (L : List α) (hf : ∀ x ∈ L, (f x).length = s) (i : Nat) (hi : i < L.length) (r : Nat) (hr : r < s) : (L.flatMap f)[i * s + r]? = (f L[i])[r]? := by
 induction L generalizing i with
 | nil => exact absurd hi (Nat.not_lt_zero _)
 | cons x L ih =>
  have hx := hf x (by simp)
  cases i with
  | zero => simp only [List.flatMap_cons, Nat.zero_mul, Nat.zero_add]; rw [List.getElem?_append_left (by rw [hx]; omega)]; rfl
  | succ i =>
   simp only [List.flatMap_cons]
   rw [List.getElem?_append_right (by rw [hx, Nat.succ_mul]; omega), hx, show (i + 1) * s + r - s = i * s + r by rw [Nat.succ_mul]; omega]
   simpa using ih (fun y hy => hf y (by simp [hy])) i (by simpa using hi)
theorem Vy {α : Type} (f : α → List Value) (s : Nat) (L : List α) (hf : ∀ x ∈ L, (f x).length = s) (i : Nat) (hi : i < L.length) (r : Nat) (hr : r < s) (u : Value) (y : α) (hy : f y = (f L[i]).set r u) : (L.flatMap f).set (i * s + r) u = (L.set i y).flatMap f := by
 induction L generalizing i with
 | nil => exact absurd hi (Nat.not_lt_zero _)
 | cons x L ih =>
  have hx := hf x (by simp)
  cases i with
  | zero =>
   simp only [List.flatMap_cons, Nat.zero_mul, Nat.zero_add, List.set_cons_zero]
   rw [List.set_append_left _ _ (by rw [hx]; omega), hy]; rfl
  | succ i =>
   simp only [List.flatMap_cons, List.set_cons_succ]
   rw [List.set_append_right _ _ (by rw [hx, Nat.succ_mul]; omega), hx, show (i + 1) * s + r - s = i * s + r by rw [Nat.succ_mul]; omega]
   rw [ih (fun z hz => hf z (by simp [hz])) i (by simpa using hi) (by simpa using hy)]
section
variable {D : Type} (E : lN D)
def aT (w : World) (v : Value) (L : List D) : Prop :=
 ∃ ts : List (List Value × D), L = ts.map (·.2) ∧ Reads w v ts.length E.size (ts.flatMap (·.1)) ∧ ∀ t ∈ ts, E.rd w t.1 t.2
def aW (w : World) (v : Value) (L : List D) (bs : List Nat) : Prop :=
 ∃ ts : List (List Value × D × List Nat), L = ts.map (·.2.1) ∧ w.ownsRow 0 E.ty E.size v ts.length (ts.flatMap (·.1)) ∧ (∀ t ∈ ts, E.own w t.1 t.2.1 t.2.2) ∧ bs = v.ownBlock.toList ++ ts.flatMap (·.2.2)
def aD (w : World) (lo hi : Nat) (v : Value) (L : List D) : Prop := ∃ bs, aW E w v L bs ∧ bs.Nodup ∧ ∀ b ∈ bs, lo ≤ b ∧ b < hi
def kJ (w : World) (lo hi : Nat) (cs : List Value) (d : D) : Prop := ∃ bs, E.own w cs d bs ∧ bs.Nodup ∧ ∀ b ∈ bs, lo ≤ b ∧ b < hi
end
section
variable {D : Type} {E : lN D}
theorem aT.form {w : World} {v : Value} {L : List D} (h : aT E w v L) : ∃ ad cap, v = .slice ad L.length cap ∧ L.length ≤ cap ∧ cap ≤ 9223372036854775807 := by
 obtain ⟨ts, rfl, hr, _⟩ := h
 obtain ⟨_, ad, cap, rfl, h1, h2, _⟩ := hr
 exact ⟨ad, cap, by simp, by simpa using h1, by unfold maxLen at h2; omega⟩
theorem aT.new {w w' : World} {v : Value} {L : List D} (h : aT E w v L) (hb : Below w.heap.size w w') : aT E w' v L := by
 obtain ⟨ts, rfl, hr, hE⟩ := h
 exact ⟨ts, rfl, hr.new hb, fun t ht => E.Df (hE t ht) hb⟩
theorem aT.at {w : World} {ad : Option Addr} {n cap : Nat} {L : List D} (h : aT E w (.slice ad n cap) L) (k : Nat) (hk : k < L.length) :
  ∃ b o cs, ad = some ⟨b, o, none⟩ ∧ b < w.heap.size ∧ E.rd w cs L[k] ∧ ∀ r u, cs[r]? = some u → w.cell? ⟨b, o + k * E.size + r, none⟩ = some u := by
 obtain ⟨ts, rfl, hr, hE⟩ := h
 have hk' : k < ts.length := by simpa using hk
 obtain ⟨hl, oJ, cap', he, h1, h2, h3⟩ := hr
 obtain ⟨b, o, rfl, hb, hc⟩ := h3 (by omega)
 simp only [Value.slice.injEq] at he
 have hm := hE _ (List.getElem_mem hk')
 refine ⟨b, o, (ts[k]).1, he.1, hb, by simpa using hm, fun r u hu => (Nat.add_assoc o (k * E.size) r).symm ▸ hc _ _ ?_⟩
 have hrs : r < E.size := by
  rw [← E.nT hm]
  exact (List.getElem?_eq_some_iff.1 hu).1
 rw [MW (fun t : List Value × D => t.1) E.size ts (fun t ht => E.nT (hE t ht)) k hk' r hrs]
 exact hu
theorem aW.rd {w : World} {v : Value} {L : List D} {bs : List Nat} (h : aW E w v L bs) : aT E w v L := by
 obtain ⟨ts, rfl, ho, hE, rfl⟩ := h
 refine ⟨ts.map fun t => (t.1, t.2.1), by simp [Function.comp_def], ?_, fun t ht => ?_⟩
 ·have := eP ho
  simpa [List.flatMap_map] using this
 ·obtain ⟨t', ht', rfl⟩ := List.mem_map.1 ht
  exact E.nU (hE t' ht')
theorem aW.lt {w : World} {v : Value} {L : List D} {bs : List Nat} (h : aW E w v L bs) : ∀ b ∈ bs, b < w.heap.size := by
 obtain ⟨ts, rfl, ho, hE, rfl⟩ := h
 intro b hb
 rcases List.mem_append.1 hb with hb | hb
 ·cases hv : v.ownBlock with
  | none => rw [hv] at hb; cases hb
  | some g => rw [hv] at hb; simp at hb; subst hb; exact (ho.lt b hv).2
 ·obtain ⟨t, ht, hbt⟩ := List.mem_flatMap.1 hb
  exact E.kr (hE t ht) b hbt
theorem aW.keep {w w' : World} {v : Value} {L : List D} {bs : List Nat} (h : aW E w v L bs) (hs : w.heap.size ≤ w'.heap.size) (hk : ∀ b ∈ bs, w'.heap[b]? = w.heap[b]?) : aW E w' v L bs := by
 obtain ⟨ts, rfl, ho, hE, rfl⟩ := h
 refine ⟨ts, rfl, gK ho fun g hg _ => hk g (by simp [hg]), fun t ht => E.ji (hE t ht) hs fun b hb => hk b ?_, rfl⟩
 exact List.mem_append_right _ (List.mem_flatMap.2 ⟨t, ht, hb⟩)
theorem aD.rd {w : World} {lo hi : Nat} {v : Value} {L : List D} (h : aD E w lo hi v L) : aT E w v L := by obtain ⟨bs, h, _⟩ := h; exact h.rd
theorem aD.new {w w' : World} {lo hi : Nat} {v : Value} {L : List D} (h : aD E w lo hi v L) (hb : Below w.heap.size w w') : aD E w' lo hi v L := by
 obtain ⟨bs, h1, h2, h3⟩ := h
 exact ⟨bs, h1.keep hb.size fun b hb' => hb.block b (h1.lt b hb'), h2, h3⟩
theorem aD.turn {w w' : World} {lo hi lo' hi' : Nat} {v : Value} {L : List D} (h : aD E w lo hi v L) (ht : Turn lo' hi' w w') (hd : hi ≤ lo' ∨ hi' ≤ lo) : aD E w' lo hi v L := by
 obtain ⟨bs, h1, h2, h3⟩ := h
 exact ⟨bs, h1.keep ht.size fun b hb' => ht.block b (h1.lt b hb') (by have := h3 b hb'; omega), h2, h3⟩
theorem aD.far {w : World} {lo hi : Nat} {v : Value} {L : List D} (h : aD E w lo hi v L) (p : Addr) (u : Value) (hp : p.block < lo ∨ hi ≤ p.block) : aD E (w.setCell p u) lo hi v L := by
 obtain ⟨bs, h1, h2, h3⟩ := h
 exact ⟨bs, h1.keep (by simp) fun b hb' => Below.heap_setCell w p u b (fun e => by have := h3 b hb'; omega), h2, h3⟩
theorem aD.wide {w : World} {lo hi lo' hi' : Nat} {v : Value} {L : List D} (h : aD E w lo hi v L) (h1 : lo' ≤ lo) (h2 : hi ≤ hi') : aD E w lo' hi' v L := by
 obtain ⟨bs, a, b, c⟩ := h
 exact ⟨bs, a, b, fun x hx => by have := c x hx; omega⟩
theorem aD.top {w : World} {lo hi : Nat} {v : Value} {L : List D} (h : aD E w lo hi v L) : aD E w lo w.heap.size v L := by
 obtain ⟨bs, a, b, c⟩ := h
 exact ⟨bs, a, b, fun x hx => ⟨(c x hx).1, a.lt x hx⟩⟩
theorem aD.form {w : World} {lo hi : Nat} {v : Value} {L : List D} (h : aD E w lo hi v L) : ∃ ad cap, v = .slice ad L.length cap ∧ L.length ≤ cap ∧ cap ≤ 9223372036854775807 := h.rd.form
theorem aD.own {w : World} {lo hi : Nat} {v : Value} {L : List D} (h : aD E w lo hi v L) : ∀ q, v.ownBlock = some q → lo ≤ q ∧ q < hi := by
 obtain ⟨bs, ⟨ts, rfl, ho, hE, rfl⟩, b, c⟩ := h
 intro q hq
 exact c q (by simp [hq])
theorem aD.ge {w : World} {lo hi b : Nat} {v : Value} {L : List D} (h : aD E w lo hi v L) (hb : b < lo) : v.ownBlock ≠ some b := fun hq => by have := (h.own b hq).1; omega
theorem kJ.new {w w' : World} {lo hi : Nat} {cs : List Value} {d : D} (h : kJ E w lo hi cs d) (hb : Below w.heap.size w w') : kJ E w' lo hi cs d := by
 obtain ⟨bs, h1, h2, h3⟩ := h
 exact ⟨bs, E.ji h1 hb.size fun b hb' => hb.block b (E.kr h1 b hb'), h2, h3⟩
theorem kJ.turn {w w' : World} {lo hi lo' hi' : Nat} {cs : List Value} {d : D} (h : kJ E w lo hi cs d) (ht : Turn lo' hi' w w') (hd : hi ≤ lo' ∨ hi' ≤ lo) : kJ E w' lo hi cs d := by
 obtain ⟨bs, h1, h2, h3⟩ := h
 exact ⟨bs, E.ji h1 ht.size fun b hb' => ht.block b (E.kr h1 b hb') (by have := h3 b hb'; omega), h2, h3⟩
theorem kJ.wide {w : World} {lo hi lo' hi' : Nat} {cs : List Value} {d : D} (h : kJ E w lo hi cs d) (h1 : lo' ≤ lo) (h2 : hi ≤ hi') : kJ E w lo' hi' cs d := by
 obtain ⟨bs, a, b, c⟩ := h
 exact ⟨bs, a, b, fun x hx => by have := c x hx; omega⟩
theorem kJ.rd {w : World} {lo hi : Nat} {cs : List Value} {d : D} (h : kJ E w lo hi cs d) : E.rd w cs d := by obtain ⟨bs, a, _⟩ := h; exact E.nU a
theorem zM {a b : List Nat} (h : (a ++ b).Nodup) : a.Nodup := (List.nodup_append.1 h).1
theorem oH {a b : List Nat} (h : (a ++ b).Nodup) : b.Nodup := (List.nodup_append.1 h).2.1
theorem oG {a b : List Nat} (h : (a ++ b).Nodup) : ∀ x ∈ a, x ∉ b := fun x hx hb => (List.nodup_append.1 h).2.2 x hx x hb rfl
theorem jv {a b : List Nat} (h1 : a.Nodup) (h2 : b.Nodup) (h3 : ∀ x ∈ a, x ∉ b) : (a ++ b).Nodup := List.nodup_append.2 ⟨h1, h2, fun x hx y hy e => h3 x hx (e ▸ hy)⟩
theorem uh (o : Option Nat) : o.toList.Nodup := by cases o <;> simp
theorem Vz (w : World) (lo hi : Nat) : aD E w lo hi (.slice none 0 0) [] := ⟨[], ⟨[], rfl, World.ownsRow_nil w 0 E.ty E.size, fun t ht => by simp at ht, by simp [Value.ownBlock]⟩, by simp, fun b hb => by simp at hb⟩
theorem VA (w : World) (hi : Nat) (hhi : w.heap.size < hi) : aD E (w.alloc (.cells #[] E.ty)) w.heap.size hi (.slice (some ⟨w.heap.size, 0, none⟩) 0 0) [] :=
 ⟨[w.heap.size], ⟨[], rfl, World.ownsRow_made w #[] 0 (Nat.zero_le _) (Nat.zero_le _) (by simp), fun t ht => by simp at ht, by simp [Value.ownBlock]⟩, by simp, fun b hb => by simp at hb; omega⟩
theorem aD.app {w w' : World} {lo mid hi : Nat} {v v' : Value} {L : List D} {cs : List Value} {d : D} {ts : List (List Value × D × List Nat)} (hL : L = ts.map (·.2.1)) (ho : w.ownsRow 0 E.ty E.size v ts.length (ts.flatMap (·.1))) (hE : ∀ t ∈ ts, E.own w t.1 t.2.1 t.2.2)
  (hn : (v.ownBlock.toList ++ ts.flatMap (·.2.2)).Nodup) (hb : ∀ b ∈ v.ownBlock.toList ++ ts.flatMap (·.2.2), lo ≤ b ∧ b < mid) (hmid : mid ≤ w.heap.size) (hlo : lo ≤ w.heap.size) (hd : kJ E w mid hi cs d) (hlm : lo ≤ mid)
  (ho' : w'.ownsRow 0 E.ty E.size v' (ts.length + 1) (ts.flatMap (·.1) ++ cs)) (hg : w.grownBy w' v.ownBlock) (hv' : v'.ownBlock = v.ownBlock ∨ v'.ownBlock = some w.heap.size) : aD E w' lo w'.heap.size v' (L ++ [d]) := by
 obtain ⟨b2, hd1, hd2, hd3⟩ := hd
 have hsub : ∀ x ∈ ts.flatMap (·.2.2), x < mid ∧ lo ≤ x := fun x hx => by have := hb x (List.mem_append_right _ hx); omega
 have hkeep : ∀ x, x < w.heap.size → (∀ g, v.ownBlock = some g → x ≠ g) → w'.heap[x]? = w.heap[x]? := fun x hx hne => hg.block x hx (fun e => by
  cases hv : v.ownBlock with
  | none => rw [hv] at e; simp at e
  | some g => rw [hv] at e; simp at e; exact hne g hv e)
 have hap := oG hn
 have hlt2 := E.kr hd1
 have GN : ∀ g, v.ownBlock = some g → g < mid ∧ lo ≤ g := fun g hg => by have := hb g (by simp [hg]); omega
 refine ⟨v'.ownBlock.toList ++ (ts.flatMap (·.2.2) ++ b2), ⟨ts ++ [(cs, d, b2)], by simp [hL], by simpa using ho', fun t ht => ?_, by simp⟩, ?_, ?_⟩
 ·rcases List.mem_append.1 ht with ht | ht
  ·refine E.ji (hE t ht) hg.size fun x hx => ?_
   have hx' : x ∈ ts.flatMap (·.2.2) := List.mem_flatMap.2 ⟨t, ht, hx⟩
   exact hkeep x (E.kr (hE t ht) x hx) fun g hgv e => hap g (by simp [hgv]) (e ▸ hx')
  ·simp at ht
   subst ht
   refine E.ji hd1 hg.size fun x hx => hkeep x (hlt2 x hx) fun g hgv e => ?_
   have := GN g hgv
   have := hd3 x hx
   omega
 ·refine jv (uh _) (jv (oH hn) hd2 fun x hx hx2 => ?_) fun x hx hx2 => ?_
  ·have := hsub x hx; have := hd3 x hx2; omega
  ·have hxv : v'.ownBlock = some x := by cases hv : v'.ownBlock <;> simp [hv] at hx ⊢; exact hx.symm
   rcases hv' with e | e
   ·have hxo := e ▸ hxv
    rcases List.mem_append.1 hx2 with h | h
    ·exact hap x (by simp [hxo]) h
    ·have := GN x hxo; have := hd3 x h; omega
   ·have : x = w.heap.size := by rw [hxv] at e; exact Option.some.inj e
    rcases List.mem_append.1 hx2 with h | h
    ·have := (hsub x h).1; omega
    ·have := hlt2 x h; omega
 ·intro x hx
  have hs := hg.size
  rcases List.mem_append.1 hx with hx | hx
  ·have hxv : v'.ownBlock = some x := by cases hv : v'.ownBlock <;> simp [hv] at hx ⊢; exact hx.symm
   have h2 := (ho'.lt x hxv).2
   rcases hv' with e | e
   ·have := GN x (e ▸ hxv); omega
   ·have : x = w.heap.size := by rw [hxv] at e; exact Option.some.inj e
    omega
  ·rcases List.mem_append.1 hx with h | h
   ·have := hsub x h; omega
   ·have := hd3 x h; have := hlt2 x h; omega
theorem Ak {α β : Type} (f : α → List β) (L : List α) (k : Nat) (hk : k < L.length) (y : α) (hy : f y = f L[k]) : (L.set k y).flatMap f = L.flatMap f := by
 induction L generalizing k with
 | nil => rfl
 | cons x L ih =>
  cases k with
  | zero => simp at hy; simp [hy]
  | succ k => simp only [List.set_cons_succ, List.flatMap_cons]; rw [ih k (by simpa using hk) (by simpa using hy)]
end
def fJ (w : World) (g o : Nat) : List Value → World
 | [] => w
 | c :: cs => fJ (w.setCell ⟨g, o, none⟩ c) g (o + 1) cs
theorem yx (g : Nat) : ∀ (cs : List Value) (w : World) (o : Nat), (fJ w g o cs).heap.size = w.heap.size
 | [], w, o => rfl
 | c :: cs, w, o => by simp only [fJ]; rw [yx g cs]; simp
theorem Ad (g : Nat) : ∀ (cs : List Value) (w : World) (o k : Nat), k ≠ g → (fJ w g o cs).heap[k]? = w.heap[k]?
 | [], w, o, k, h => rfl
 | c :: cs, w, o, k, h => by simp only [fJ]; rw [Ad g cs _ _ k h]; exact Below.heap_setCell w _ c k h
theorem Mv {B : Nat} {a : World} (g : Nat) (hg : B ≤ g) : ∀ (cs : List Value) (w : World) (o : Nat), Below B a w → Below B a (fJ w g o cs)
 | [], w, o, h => h
 | c :: cs, w, o, h => by simp only [fJ]; exact Mv g hg cs _ _ (h.setCell (by simpa using hg) c)
theorem VB {α : Type} (xs ys : List α) (u : α) : (xs ++ ys).set xs.length u = xs ++ ys.set 0 u := by
 rw [List.set_append_right _ _ (Nat.le_refl _), Nat.sub_self]
theorem Gy {base : Nat} {e : TypeId} {size : Nat} {v : Value} {n g : Nat} (hg : v.ownBlock = some g) : ∀ (cs : List Value) (w : World) (A B C : List Value), w.ownsRow base e size v n (A ++ B ++ C) → B.length = cs.length → (fJ w g A.length cs).ownsRow base e size v n (A ++ cs ++ C)
 | [], w, A, B, C, h, hl => by
  have : B = [] := List.length_eq_zero_iff.1 hl
  subst this
  exact h
 | c :: cs, w, A, [], C, h, hl => by simp at hl
 | c :: cs, w, A, b :: B, C, h, hl => by
  simp only [fJ]
  have h1 := mI h hg A.length c
  rw [List.append_assoc, VB] at h1
  simp only [List.cons_append, List.set_cons_zero] at h1
  have h2 := Gy hg cs (w.setCell ⟨g, A.length, none⟩ c) (A ++ [c]) B C (by simpa using h1) (by simpa using hl)
  simpa using h2
theorem DL {α : Type} (f : α → List Value) (L : List α) (k : Nat) (hk : k < L.length) : L.flatMap f = (L.take k).flatMap f ++ f L[k] ++ (L.drop (k + 1)).flatMap f := by
 have h : L.take k ++ L[k] :: L.drop (k + 1) = L := by rw [← List.drop_eq_getElem_cons hk, List.take_append_drop]
 have h2 : (L.take k ++ L[k] :: L.drop (k + 1)).flatMap f = (L.take k).flatMap f ++ f L[k] ++ (L.drop (k + 1)).flatMap f := by rw [List.flatMap_append, List.flatMap_cons, List.append_assoc]
 rw [h] at h2
 exact h2
section
variable {D : Type} {E : lN D}
theorem aW.put {w : World} {v : Value} {L : List D} {bs : List Nat} (h : aW E w v L bs) (hn : bs.Nodup) (k : Nat) (hk : k < L.length) :
  ∃ g cap cs b, v = .slice (some ⟨g, 0, none⟩) L.length cap ∧ g < w.heap.size ∧ g ∈ bs ∧ g ∉ b ∧ (∀ x ∈ b, x ∈ bs) ∧ b.Nodup ∧ E.own w cs L[k] b ∧ (∀ r u, cs[r]? = some u → w.cell? ⟨g, k * E.size + r, none⟩ = some u) ∧ (∀ j, w.frozen? ⟨g, j, none⟩ = false) ∧
   (∀ r u d', r < E.size → E.own w (cs.set r u) d' b → aW E (w.setCell ⟨g, k * E.size + r, none⟩ u) v (L.set k d') bs) ∧
   (∀ w' d', E.own w' cs d' b → w.heap.size ≤ w'.heap.size → (∀ x ∈ bs, x ∉ b → w'.heap[x]? = w.heap[x]?) → aW E w' v (L.set k d') bs) ∧
   (∀ A B C cs' d', cs = A ++ B ++ C → B.length = cs'.length → E.own w (A ++ cs' ++ C) d' b → aW E (fJ w g (k * E.size + A.length) cs') v (L.set k d') bs) := by
 obtain ⟨ts, rfl, ho, hE, rfl⟩ := h
 have hk' : k < ts.length := by simpa using hk
 have hm := List.getElem_mem hk'
 have hlen : ∀ t ∈ ts, t.1.length = E.size := fun t ht => E.nT (E.nU (hE t ht))
 obtain ⟨g, cap, rfl, hg, hb0, hgl, h1, h2, hc, hf⟩ := qx ho (by omega)
 have hap := oG hn
 have hgb : g ∈ (Value.slice (some ⟨g, 0, none⟩) ts.length cap).ownBlock.toList := by rw [hg]; simp
 have hsub : ∀ x ∈ ts[k].2.2, x ∈ ts.flatMap (·.2.2) := fun x hx => List.mem_flatMap.2 ⟨_, hm, hx⟩
 have hgn : g ∉ ts[k].2.2 := fun hx => hap g hgb (hsub g hx)
 have hbk : ts[k].2.2.Nodup := by
  have : (ts.flatMap (·.2.2)).Nodup := oH hn
  rw [List.flatMap_def] at this
  exact (List.pairwise_flatten.1 this).1 _ (List.mem_map.2 ⟨_, hm, rfl⟩)
 have hoth : ∀ t ∈ ts, g ∉ t.2.2 := fun t ht hx => hap g hgb (List.mem_flatMap.2 ⟨t, ht, hx⟩)
 refine ⟨g, cap, ts[k].1, ts[k].2.2, by simp, hgl, List.mem_append_left _ hgb, hgn, fun x hx => List.mem_append_right _ (hsub x hx), hbk, by simpa using hE _ hm, fun r u hu => hc _ _ ?_, hf, fun r u d' hr hown => ?_, fun w' d' hown hs hkeep => ?_, fun A B C cs' d' VD hBl hown => ?_⟩
 ·have hrs : r < E.size := by rw [← hlen _ hm]; exact (List.getElem?_eq_some_iff.1 hu).1
  rw [MW (fun t : List Value × D × List Nat => t.1) E.size ts hlen k hk' r hrs]
  exact hu
 ·have GQ : ∀ t ∈ ts, E.own (w.setCell ⟨g, k * E.size + r, none⟩ u) t.1 t.2.1 t.2.2 := fun t ht => E.ji (hE t ht) (by simp) fun x hx => Below.heap_setCell w _ u x (fun e => hoth t ht (by have e' : x = g := e; rw [← e']; exact hx))
  have hnew : E.own (w.setCell ⟨g, k * E.size + r, none⟩ u) (ts[k].1.set r u) d' ts[k].2.2 := E.ji hown (by simp) fun x hx => Below.heap_setCell w _ u x (fun e => hgn (by have e' : x = g := e; rw [← e']; exact hx))
  refine ⟨ts.set k (ts[k].1.set r u, d', ts[k].2.2), by rw [List.map_set], ?_, fun t ht => ?_, ?_⟩
  ·have := mI ho hg (k * E.size + r) u
   rw [Vy (fun t : List Value × D × List Nat => t.1) E.size ts hlen k hk' r hr u (ts[k].1.set r u, d', ts[k].2.2) rfl] at this
   simpa using this
  ·rcases List.mem_or_eq_of_mem_set ht with ht | rfl
   ·exact GQ t ht
   ·exact hnew
  ·rw [Ak (fun t : List Value × D × List Nat => t.2.2) ts k hk' (ts[k].1.set r u, d', ts[k].2.2) rfl]
 ·refine ⟨ts.set k (ts[k].1, d', ts[k].2.2), by rw [List.map_set], ?_, fun t ht => ?_, ?_⟩
  ·have VE : w'.heap[g]? = w.heap[g]? := hkeep g (List.mem_append_left _ hgb) hgn
   have := gK (w' := w') ho fun q hq _ => by rw [hg] at hq; obtain rfl := Option.some.inj hq; exact VE
   rw [Ak (fun t : List Value × D × List Nat => t.1) ts k hk' (ts[k].1, d', ts[k].2.2) rfl]
   simpa using this
  ·obtain ⟨i, hi, rfl⟩ := List.mem_iff_getElem.1 ht
   have hi' : i < ts.length := by simpa using hi
   by_cases e : i = k
   ·subst e; simpa using hown
   ·rw [List.getElem_set_ne (by omega)]
    refine E.ji (hE _ (List.getElem_mem hi')) hs fun x hx => hkeep x (List.mem_append_right _ (List.mem_flatMap.2 ⟨_, List.getElem_mem hi', hx⟩)) fun hxk => ?_
    have hnf : (ts.flatMap (·.2.2)).Nodup := oH hn
    rw [List.flatMap_def] at hnf
    have hpw := (List.pairwise_flatten.1 hnf).2
    have hlt := List.pairwise_iff_getElem.1 hpw
    rcases Nat.lt_or_gt_of_ne e with h | h
    ·exact hlt i k (by simpa using hi') (by simpa using hk') h x (by simpa using hx) x (by simpa using hxk) rfl
    ·exact hlt k i (by simpa using hk') (by simpa using hi') h x (by simpa using hxk) x (by simpa using hx) rfl
  ·rw [Ak (fun t : List Value × D × List Nat => t.2.2) ts k hk' (ts[k].1, d', ts[k].2.2) rfl]
 ·have GQ : ∀ t ∈ ts, E.own (fJ w g (k * E.size + A.length) cs') t.1 t.2.1 t.2.2 := fun t ht => E.ji (hE t ht) (Nat.le_of_eq (yx g _ _ _).symm) fun x hx => Ad g _ _ _ x (fun e => hoth t ht (e ▸ hx))
  have hnew : E.own (fJ w g (k * E.size + A.length) cs') (A ++ cs' ++ C) d' ts[k].2.2 := E.ji hown (Nat.le_of_eq (yx g _ _ _).symm) fun x hx => Ad g _ _ _ x (fun e => hgn (e ▸ hx))
  refine ⟨ts.set k (A ++ cs' ++ C, d', ts[k].2.2), by rw [List.map_set], ?_, fun t ht => ?_, ?_⟩
  ·have hA : ((ts.take k).flatMap (fun t : List Value × D × List Nat => t.1)).length = k * E.size := by
    rw [Ac (fun t : List Value × D × List Nat => t.1) E.size (ts.take k) (fun t ht => hlen t (List.mem_of_mem_take ht)), List.length_take, Nat.min_eq_left (by omega)]
   have ho2 := ho
   rw [DL (fun t : List Value × D × List Nat => t.1) ts k hk', VD] at ho2
   have := Gy hg cs' w ((ts.take k).flatMap (fun t : List Value × D × List Nat => t.1) ++ A) B (C ++ (ts.drop (k + 1)).flatMap (fun t : List Value × D × List Nat => t.1)) (by simpa using ho2) hBl
   rw [List.length_append, hA] at this
   rw [DL (fun t : List Value × D × List Nat => t.1) (ts.set k (A ++ cs' ++ C, d', ts[k].2.2)) k (by simpa using hk')]
   simpa [List.take_set_of_le, List.drop_set_of_lt] using this
  ·rcases List.mem_or_eq_of_mem_set ht with ht | rfl
   ·exact GQ t ht
   ·exact hnew
  ·rw [Ak (fun t : List Value × D × List Nat => t.2.2) ts k hk' (A ++ cs' ++ C, d', ts[k].2.2) rfl]
end
section
variable {D : Type} {E : lN D}
theorem aT.flat {f : D → List Value} (hf : ∀ w cs d, E.rd w cs d → cs = f d) {w : World} {v : Value} {L : List D} (h : aT E w v L) : Reads w v L.length E.size (L.flatMap f) := by
 obtain ⟨ts, rfl, hr, hE⟩ := h
 have e : ts.flatMap (fun t => t.1) = (ts.map (fun t => t.2)).flatMap f := by
  rw [List.flatMap_map]
  have hh : ∀ t ∈ ts, t.1 = f t.2 := fun t ht => hf w _ _ (hE t ht)
  clear hr hE
  induction ts with
  | nil => rfl
  | cons t ts ih => simp only [List.flatMap_cons]; rw [ih (fun x hx => hh x (by simp [hx])), ← hh t (by simp)]
 rw [← e]
 simpa using hr
theorem aD.flat {f : D → List Value} (hf : ∀ w cs d, E.rd w cs d → cs = f d) {w : World} {lo hi : Nat} {v : Value} {L : List D} (h : aD E w lo hi v L) : w.ownsRow lo E.ty E.size v L.length (L.flatMap f) := by
 obtain ⟨bs, ⟨ts, rfl, ho, hE, rfl⟩, hn, hb⟩ := h
 have e : ts.flatMap (fun t => t.1) = (ts.map (fun t => t.2.1)).flatMap f := by
  rw [List.flatMap_map]
  have hh : ∀ t ∈ ts, t.1 = f t.2.1 := fun t ht => hf w _ _ (E.nU (hE t ht))
  clear ho hE hn hb
  induction ts with
  | nil => rfl
  | cons t ts ih => simp only [List.flatMap_cons]; rw [ih (fun x hx => hh x (by simp [hx])), ← hh t (by simp)]
 rw [← e]
 exact eG (by simpa using ho) fun k hk => (hb k (by simp [hk])).1
theorem GR {f : D → List Value} {w : World} {lo : Nat} {v : Value} {L : List D} (hf : ∀ d ∈ L, E.own w (f d) d []) (h : w.ownsRow lo E.ty E.size v L.length (L.flatMap f)) : aD E w lo w.heap.size v L := by
 refine ⟨v.ownBlock.toList, ⟨L.map fun d => (f d, d, []), by simp [Function.comp_def], ?_, fun t ht => ?_, ?_⟩, uh _, fun b hb => ?_⟩
 ·have := eG (base' := 0) h fun k _ => Nat.zero_le _
  simpa [List.flatMap_map] using this
 ·obtain ⟨d, hd, rfl⟩ := List.mem_map.1 ht
  exact hf d hd
 ·have : ∀ M : List D, (M.map fun d => ((f d, d, []) : List Value × D × List Nat)).flatMap (fun t => t.2.2) = [] := fun M => by induction M <;> simp_all
  rw [this]; simp
 ·cases hv : v.ownBlock with
  | none => rw [hv] at hb; cases hb
  | some g => rw [hv] at hb; simp at hb; subst hb; exact h.lt b hv
end
structure aG (bs : List Nat) (w w' : World) : Prop where
 os : w'.os = w.os
 tape : w'.tape = w.tape
 output : w'.output = w.output
 size : w.heap.size ≤ w'.heap.size
 block : ∀ k, k < w.heap.size → k ∉ bs → w'.heap[k]? = w.heap[k]?
theorem aG.refl (bs : List Nat) (w : World) : aG bs w w := ⟨rfl, rfl, rfl, Nat.le_refl _, fun _ _ _ => rfl⟩
theorem aG.trans {bs : List Nat} {a b c : World} (h : aG bs a b) (k : aG bs b c) : aG bs a c :=
 ⟨k.os.trans h.os, k.tape.trans h.tape, k.output.trans h.output, Nat.le_trans h.size k.size, fun i hi h' => (k.block i (Nat.lt_of_lt_of_le hi h.size) h').trans (h.block i hi h')⟩
theorem aG.wide {bs bs' : List Nat} {a b : World} (h : aG bs a b) (hs : ∀ x ∈ bs, x ∈ bs') : aG bs' a b := ⟨h.os, h.tape, h.output, h.size, fun k hk hn => h.block k hk fun hx => hn (hs k hx)⟩
theorem aG.new {bs : List Nat} {a b : World} (h : Below a.heap.size a b) : aG bs a b := ⟨h.os, h.tape, h.output, h.size, fun k hk _ => h.block k hk⟩
theorem aG.set {bs : List Nat} {a b : World} (h : aG bs a b) (p : Addr) (v : Value) (hp : p.block ∈ bs) : aG bs a (b.setCell p v) :=
 ⟨h.os, h.tape, h.output, by simp; exact h.size, fun k hk hn => by rw [Below.heap_setCell b p v k (fun e => hn (by rw [e]; exact hp))]; exact h.block k hk hn⟩
theorem aG.fJ {bs : List Nat} {a : World} (g : Nat) (hg : g ∈ bs) : ∀ (cs : List Value) (w : World) (o : Nat), aG bs a w → aG bs a (fJ w g o cs)
 | [], w, o, h => h
 | c :: cs, w, o, h => aG.fJ g hg cs _ _ (h.set _ c (by simpa using hg))
theorem aG.turn {bs : List Nat} {a b : World} {lo hi : Nat} (h : aG bs a b) (hb : ∀ x ∈ bs, lo ≤ x ∧ x < hi) : Turn lo hi a b := ⟨h.os, h.tape, h.output, h.size, fun k hk hn => h.block k hk fun hx => by have := hb k hx; omega⟩
theorem Gb (t e : TypeId) (z : Value) (size bytes : Nat) (hu : Tryz.prog.underlying t = some (.slice e)) (lV : ((Tryz.prog.info? e).map fun i => (i.zero, i.size, i.bytes)) = some (some z, size, bytes)) (hzs : z.cells.size = size) (hs : 0 < size) (hby : bytes ≤ 1000) (R : Nat) (h : R ≤ 1048576) :
  ∃ M : Array Value, M.size = R * size ∧ ∀ X : World, (Instr.makeSlice t (.int .i64 (R : Int)) (.int .i64 (R : Int))).run Tryz.prog X = .ok (.slice (some ⟨X.heap.size, 0, none⟩) R R) (X.alloc (.cells M e)) := by
 obtain ⟨i0, hi, hz0, hz1, hz2⟩ := info_parts (P := Tryz.prog) (e := e) (z := z) (size := size) (bytes := bytes) lV
 refine ⟨madeCells z.cells (R * size), by rw [size_madeCells], fun X => ?_⟩
 have hb : R * bytes ≤ 1048576 * 1000 := Nat.mul_le_mul h hby
 have hb' : bytes * R ≤ 1048576 * 1000 := by rw [Nat.mul_comm]; exact hb
 have h := run_make (P := Tryz.prog) X t e i0 z hu hi hz0 .i64 .i64 (R : Int) (R : Int) (by omega) (by omega) (by rw [hz2]; first | omega | (rw [Nat.mul_comm]; omega)) (by omega)
 rw [hz1] at h
 simpa using h
theorem Gc (w : World) (M : Array Value) (e : TypeId) (size R : Nat) (h : M.size = R * size) (hR : R ≤ 1048576) : (w.alloc (.cells M e)).ownsRow w.heap.size e size (.slice (some ⟨w.heap.size, 0, none⟩) R R) R M.toList :=
 ⟨by simp [h], .inr ⟨w.heap.size, R, M, rfl, Nat.le_refl _, heap_alloc_new w _, Nat.le_refl _, by unfold maxLen; omega, h, by rw [← h, ← Array.length_toList, List.take_length]⟩⟩
open Go.ChangeShapes Go.WideShapes Go.ChangeAt Go.Joins Go.Deep in
theorem Ve {α : Type} (x0 : α) (f : α → List Value) (size : Nat) (hf : ∀ x, (f x).length = size) (R : α → Prop) {H : Type} {enc : TypeId × Value → H} {W : World} {base : Nat} {spare : Nat → Bool} {held : Bool} {t e : TypeId} {fuel : Nat} {v : Value} {x : DataW H × List MemPlace}
  (ht : Tryz.prog.underlying t = some (.slice e)) (hs : Tryz.prog.cellsOf e = size) (hpos : 0 < size)
  (hel : ∀ cs n y, DataW.trod enc Tryz.prog W base spare held n e cs = some y → ∃ x : α, cs = f x ∧ R x)
  (h : DataW.trod enc Tryz.prog W base spare held fuel t [v] = some x) : ∃ L : List α, Reads W v L.length size (L.flatMap f) ∧ ∀ x ∈ L, R x := by
 have hinh : Inhabited α := ⟨x0⟩
 rcases Deep.open_slice ht h with ⟨hcs, _⟩ | ⟨a, len, cap, m, n, D, Pl, hcs, hb, hl, hm, hmm, _, hx⟩
 ·simp only [List.cons.injEq, and_true] at hcs
  subst hcs
  exact ⟨[], ⟨by simp, none, 0, rfl, Nat.le_refl _, Nat.zero_le _, fun h => absurd h (by simp)⟩, fun x hx => by cases hx⟩
 ·simp only [List.cons.injEq, and_true] at hcs
  subst hcs
  have hlm : len ≤ m := by rw [hmm]; split <;> omega
  obtain ⟨X, hX⟩ := Deep.choose_lt (α := α) (n := len) (p := fun i x => W.cells? base (a.add (i * size)) size = some (f x) ∧ R x) (fun i hi => by
   obtain ⟨cs', h1, h2⟩ := hx i (by omega)
   rw [hs] at h1
   obtain ⟨x, rfl, hr⟩ := hel cs' _ _ h2
   exact ⟨x, h1, hr⟩)
  have hlen : ((List.range len).map X).length = len := by simp
  have hget : ∀ i (hi : i < len), ((List.range len).map X)[i]'(by simpa using hi) = X i := fun i hi => by simp
  refine ⟨(List.range len).map X, ⟨by rw [DC f size hf], some a, cap, by rw [hlen], by rw [hlen]; exact hl, hm, fun hn => ?_⟩, fun x hx => ?_⟩
  ·rw [hlen] at hn
   obtain ⟨b, o, sp⟩ := a
   have h0 := (hX 0 hn).1
   have hc0 := (World.cells?_some h0).2.2 0 hpos
   have hsome : (f (X 0))[0]? = some ((f (X 0))[0]'(by rw [hf]; exact hpos)) := List.getElem?_eq_getElem _
   rw [hsome] at hc0
   have hsp : sp = none := by
    cases sp with
    | none => rfl
    | some q => simp [Addr.add, World.cell?] at hc0; split at hc0 <;> simp at hc0
   subst hsp
   have hadd : ∀ i r, ((⟨b, o, none⟩ : Addr).add i).add r = ⟨b, o + (i + r), none⟩ := fun i r => by rw [Deep.add_add]; unfold Addr.add; split <;> simp_all
   refine ⟨b, o, rfl, ?_, fun j u hu => ?_⟩
   ·have := hadd (0 * size) 0
    rw [this] at hc0
    exact World.block_lt_of_cell? W _ hc0
   ·have hj : j < len * size := by
     have := (List.getElem?_eq_some_iff.1 hu).1
     rw [DC f size hf, hlen] at this
     exact this
    have hi : j / size < len := by rw [Nat.div_lt_iff_lt_mul hpos]; exact hj
    have hr : j % size < size := Nat.mod_lt _ hpos
    have hjj : j / size * size + j % size = j := by have := Nat.div_add_mod j size; rw [Nat.mul_comm] at this; exact this
    rw [← hjj, flat_get f size hf _ _ (by rw [hlen]; exact hi) _ hr, hget _ hi] at hu
    have hc := (World.cells?_some (hX _ hi).1).2.2 _ hr
    rw [hadd, hu, hjj] at hc
    exact hc
  ·obtain ⟨i, hi, rfl⟩ := List.mem_map.1 hx
   exact (hX i (by simpa using hi)).2
def comes (r : Int) (b s : ByteArray) : Nat := (min (s.size : Int) (r - b.size)).toNat
def uD (v : Value) : Prop := ∃ z : Int, v = .int .u8 z ∧ 0 ≤ z ∧ z ≤ 255
theorem Moves.grown {g : Nat} {w a b : World} {row : Option Nat} (h : Moves g w a) (hg : a.grownBy b row) (hr : ∀ k, row = some k → w.heap.size ≤ k) : Moves g w b :=
 ⟨hg.os.trans h.os, hg.tape.trans h.tape, hg.output.trans h.output, Nat.le_trans h.size hg.size, fun k hk hne => (hg.block k (Nat.lt_of_lt_of_le hk h.size) (fun e => by have := hr k e.symm; omega)).trans (h.block k hk hne)⟩
theorem MH : ∀ (xs : List Value), (∀ v ∈ xs, uD v) → ∃ l : List UInt8, l.length = xs.length ∧ ∀ j (hj : j < l.length), xs[j]? = some (.int .u8 (l[j].toNat : Int))
 | [], _ => ⟨[], rfl, fun j hj => by simp at hj⟩
 | v :: xs, h => by
  obtain ⟨l, hl, hj⟩ := MH xs (fun u hu => h u (List.mem_cons_of_mem _ hu))
  obtain ⟨z, rfl, z0, z1⟩ := h v List.mem_cons_self
  refine ⟨UInt8.ofNat z.toNat :: l, by simp [hl], fun j hjj => ?_⟩
  cases j with
  | zero =>
   have : ((UInt8.ofNat z.toNat).toNat : Int) = z := by simp [UInt8.toNat_ofNat']; omega
   show some (Value.int .u8 z) = some (Value.int .u8 ((UInt8.ofNat z.toNat).toNat : Int))
   rw [this]
  | succ k =>
   have := hj k (by simpa using hjj)
   simpa using this
theorem Ut {W : World} {base b n cap t : Nat} {e : TypeId} {xs : List Value} (h : W.ownsRow base e 1 (.slice (some ⟨b, 0, none⟩) n cap) n xs) (u : Value) :
  (W.setCell ⟨b, t, none⟩ u).ownsRow base e 1 (.slice (some ⟨b, 0, none⟩) n cap) n (xs.set t u) := by
 obtain ⟨h1, h2⟩ := h
 refine ⟨by simpa using h1, ?_⟩
 rcases h2 with ⟨h2, _⟩ | ⟨b', cap', cur, e1, e2, e3, e4, e5, e6, e7⟩
 ·cases h2
 ·simp only [Value.slice.injEq, Option.some.injEq, Addr.mk.injEq, and_true, true_and] at e1
  obtain ⟨rfl, rfl⟩ := e1
  refine .inr ⟨b, cap, cur.setIfInBounds t u, rfl, e2, Joins.block_setCell e3 u, e4, e5, by simpa using e6, ?_⟩
  rw [Array.toList_setIfInBounds, List.take_set, e7]
theorem Ur {W : World} {base b n cap t : Nat} {e : TypeId} {xs : List Value} (h : W.ownsRow base e 1 (.slice (some ⟨b, 0, none⟩) n cap) n xs) (ht : t < n) :
  (∃ u, W.cell? ⟨b, t, none⟩ = some u) ∧ W.frozen? ⟨b, t, none⟩ = false ∧ base ≤ b ∧ n ≤ cap ∧ b < W.heap.size := by
 obtain ⟨h1, h2⟩ := h
 rcases h2 with ⟨h2, _⟩ | ⟨b', cap', cur, e1, e2, e3, e4, e5, e6, e7⟩
 ·cases h2
 ·simp only [Value.slice.injEq, Option.some.injEq, Addr.mk.injEq, and_true, true_and] at e1
  obtain ⟨rfl, rfl⟩ := e1
  have hlt : t < cur.size := by omega
  exact ⟨⟨cur[t], by rw [Joins.cell_of_block e3, Array.getElem?_eq_getElem hlt]⟩, Joins.unfrozen_of_block e3 t, e2, e4, (Array.getElem?_eq_some_iff.1 e3).1⟩
theorem Vj {xs : List Value} (hx : ∀ u ∈ xs, uD u) (u : Value) (hu : uD u) : ∀ v ∈ xs ++ [u], uD v := by
 intro v hv
 rcases List.mem_append.1 hv with h | h
 ·exact hx v h
 ·simp at h; rw [h]; exact hu
section
variable (w : World)
theorem VF (t ty e : TypeId) (z : Value) (size bytes : Nat) (ht : Tryz.prog.underlying t = some (.slice e)) (lV : ((Tryz.prog.info? e).map fun i => (i.zero, i.size, i.bytes)) = some (some z, size, bytes)) (hzs : z.cells.size = size) (hsz : 0 < size)
  (base : Nat) (v : Value) (n : Nat) (xs : List Value) (hown : w.ownsRow base e size v n xs) (u : Value) (m : Nat) (news : List Value) (hr : Reads w u m size news) (h1 : ∀ u ∈ news, u.oneCell' = true)
  (hnm : n + m ≤ 2097152) (hby : bytes ≤ 1000) (hbase : base ≤ w.heap.size) :
  ∃ v' w', (Builtin.append_ #[t, t] ty #[v, u]).run Tryz.prog w = .ok v' w' ∧ w'.ownsRow base e size v' (n + m) (xs ++ news) ∧ w.grownBy w' v.ownBlock ∧ (v'.ownBlock = v.ownBlock ∨ v'.ownBlock = some w.heap.size) := by
 obtain ⟨i, hi, hz, hs, hb⟩ := info_parts (P := Tryz.prog) (e := e) (z := z) (size := size) (bytes := bytes) lV
 obtain ⟨hl, ad, cap, rfl, h2, h3, h4⟩ := hr
 have hbytes : (n + m) * bytes ≤ 140737488355328 := by
  have := Nat.mul_le_mul hnm hby
  omega
 cases ad with
 | some a =>
  obtain ⟨v', w', hrun, ho, hg, _, hat⟩ := run_append_own_at (P := Tryz.prog) w base t ty e i z size bytes ht hi hz hs hb hzs hsz v n xs hown a m cap news hl (fun j x hj => by
   have hm : 0 < m := by
    rcases Nat.eq_zero_or_pos m with h0 | h0
    ·subst h0; simp at hl; subst hl; simp at hj
    ·exact h0
   obtain ⟨b, o, e1, _, hc⟩ := h4 hm
   simp only [Option.some.injEq] at e1
   subst e1
   have := hc j x hj
   have ha : (⟨b, o, none⟩ : Addr).add j = ⟨b, o + j, none⟩ := by unfold Addr.add; split <;> simp_all
   rw [ha]; exact this) h1 (by unfold maxLen; omega) hbytes hbase
  exact ⟨v', w', hrun, ho, hg, hat⟩
 | none =>
  have hm : m = 0 := by
   rcases Nat.eq_zero_or_pos m with h0 | h0
   ·exact h0
   ·obtain ⟨b, o, e1, _⟩ := h4 h0; cases e1
  subst hm
  simp at hl
  subst hl
  obtain ⟨ad0, cap0, rfl, g1, g2⟩ := bW hown
  refine ⟨.slice ad0 n cap0, w, ?_, by simpa using hown, GJ _ _, .inl rfl⟩
  cases ad0 with
  | none => simp [Builtin.append_, run_underlying ht, sizeOf, typeInfo, hi, Builtin.lenOf, g1, Builtin.firstCells]
  | some a0 => simp [Builtin.append_, run_underlying ht, sizeOf, typeInfo, hi, Builtin.lenOf, g1, Builtin.firstCells, storeCells]
theorem MX {o : Oper} {a : Act} {K : Act → World → Prop} {Q : Exit → Act → World → Prop} (s x : Operand) (t : TypeId) (ho : o.op = .call { callee := .builtin .append, args := #[s, x], argTypes := #[t, t] })
  (e : TypeId) (z : Value) (size bytes : Nat) (ht : Tryz.prog.underlying t = some (.slice e)) (lV : ((Tryz.prog.info? e).map fun i => (i.zero, i.size, i.bytes)) = some (some z, size, bytes)) (hzs : z.cells.size = size) (hsz : 0 < size)
  (base : Nat) (v : Value) (n : Nat) (xs : List Value) (hs : a.eval s = v) (hown : w.ownsRow base e size v n xs) (u : Value) (m : Nat) (news : List Value) (hx : a.eval x = u) (hr : Reads w u m size news) (h1 : ∀ u ∈ news, u.oneCell' = true)
  (hnm : n + m ≤ 2097152) (hby : bytes ≤ 1000) (hbase : base ≤ w.heap.size)
  (h : ∀ ad cap w', w'.ownsRow base e size (.slice ad (n + m) cap) (n + m) (xs ++ news) → w.grownBy w' v.ownBlock → ((Value.slice ad (n + m) cap).ownBlock = v.ownBlock ∨ (Value.slice ad (n + m) cap).ownBlock = some w.heap.size) → K (a.put o.dst (.slice ad (n + m) cap)) w') : o.wp Tryz.prog a w K Q := by
 obtain ⟨v', w', hrun, h2, h3, h4⟩ := VF w t o.type e z size bytes ht lV hzs hsz base v n xs hown u m news hr h1 hnm hby hbase
 obtain ⟨ad, cap, rfl, _⟩ := bW h2
 unfold Oper.wp execOp
 simp only [ho, resolve, invoke, builtin, Sem.run_bind, Sem.run_pure, Result.andThen_ok, List.map_toArray, List.map_cons, List.map_nil, hs, hx, hrun]
 exact h ad cap w' h2 h3 h4
theorem yC {ops : Array Oper} {rest : List Oper} {o : Oper} {a : Act} {Q : Exit → Act → World → Prop} (hgd : o.guard = none) (s x : Operand) (t : TypeId) (ho : o.op = .call { callee := .builtin .append, args := #[s, x], argTypes := #[t, t] })
  (e : TypeId) (z : Value) (size bytes : Nat) (ht : Tryz.prog.underlying t = some (.slice e)) (lV : ((Tryz.prog.info? e).map fun i => (i.zero, i.size, i.bytes)) = some (some z, size, bytes)) (hzs : z.cells.size = size) (hsz : 0 < size)
  (base : Nat) (v : Value) (n : Nat) (xs : List Value) (hs : a.eval s = v) (hown : w.ownsRow base e size v n xs) (u : Value) (m : Nat) (news : List Value) (hx : a.eval x = u) (hr : Reads w u m size news) (h1 : ∀ u ∈ news, u.oneCell' = true)
  (hnm : n + m ≤ 2097152) (hby : bytes ≤ 1000) (hbase : base ≤ w.heap.size)
  (h : ∀ ad cap w', w'.ownsRow base e size (.slice ad (n + m) cap) (n + m) (xs ++ news) → w.grownBy w' v.ownBlock → ((Value.slice ad (n + m) cap).ownBlock = v.ownBlock ∨ (Value.slice ad (n + m) cap).ownBlock = some w.heap.size) → wpList Tryz.prog ops Q rest (a.put o.dst (.slice ad (n + m) cap)) w') : wpList Tryz.prog ops Q (o :: rest) a w :=
 wpList_plain hgd fun _ hK => MX w s x t ho e z size bytes ht lV hzs hsz base v n xs hs hown u m news hx hr h1 hnm hby hbase fun ad cap w' h2 h3 h4 => hK _ _ (h ad cap w' h2 h3 h4)
theorem kL {ops : Array Oper} {o : Oper} {a : Act} {K : Act → World → Prop} {Q : Exit → Act → World → Prop} {E : Prop} (hgd : o.guard = none) (s x : Operand) (t : TypeId) (ho : o.op = .call { callee := .builtin .append, args := #[s, x], argTypes := #[t, t] })
  (e : TypeId) (z : Value) (size bytes : Nat) (ht : Tryz.prog.underlying t = some (.slice e)) (lV : ((Tryz.prog.info? e).map fun i => (i.zero, i.size, i.bytes)) = some (some z, size, bytes)) (hzs : z.cells.size = size) (hsz : 0 < size)
  (base : Nat) (v : Value) (n : Nat) (xs : List Value) (hs : a.eval s = v) (hown : w.ownsRow base e size v n xs) (u : Value) (m : Nat) (news : List Value) (hx : a.eval x = u) (hr : Reads w u m size news) (h1 : ∀ u ∈ news, u.oneCell' = true)
  (hnm : n + m ≤ 2097152) (hby : bytes ≤ 1000) (hbase : base ≤ w.heap.size)
  (h : ∀ ad cap w', w'.ownsRow base e size (.slice ad (n + m) cap) (n + m) (xs ++ news) → w.grownBy w' v.ownBlock → ((Value.slice ad (n + m) cap).ownBlock = v.ownBlock ∨ (Value.slice ad (n + m) cap).ownBlock = some w.heap.size) → K (a.put o.dst (.slice ad (n + m) cap)) w') :
  if Region.wanted o (yielded ops a.tmps) = true then Oper.wp Tryz.prog o a w K Q else E := by
 have hw : Region.wanted o (yielded ops a.tmps) = true := by simp [Region.wanted, hgd]
 rw [if_pos hw]
 exact MX w s x t ho e z size bytes ht lV hzs hsz base v n xs hs hown u m news hx hr h1 hnm hby hbase h
end
theorem sj.wider {w : World} {a : Option Addr} {len B B' : Nat} (h : sj w a len B) (hb : B ≤ B') : sj w a len B' := fun j hj => by
 obtain ⟨b, o, z, h1, h2, h3⟩ := h j hj
 exact ⟨b, o, z, h1, by omega, h3⟩
theorem sj.behind {w w' : World} {a : Option Addr} {len : Nat} (h : sj w a len w.heap.size) (hb : Below w.heap.size w w') : sj w' a len w'.heap.size := (h.kept hb).wider hb.size
open Go.ChangeShapes Go.WideShapes Go.ChangeAt Go.Joins
open Go.ChangeMaps (open_string shut_string)
def pw (b : Int) : Int := 2 ^ b.toNat
theorem Gv {b : Int} (h1 : 1 ≤ b) (h8 : b ≤ 8) : b = 1 ∨ b = 2 ∨ b = 3 ∨ b = 4 ∨ b = 5 ∨ b = 6 ∨ b = 7 ∨ b = 8 := by omega
theorem Mk {b : Int} (h1 : 1 ≤ b) (h8 : b ≤ 8) : pw b = 2 ∨ pw b = 4 ∨ pw b = 8 ∨ pw b = 16 ∨ pw b = 32 ∨ pw b = 64 ∨ pw b = 128 ∨ pw b = 256 := by
 rcases Gv h1 h8 with rfl | rfl | rfl | rfl | rfl | rfl | rfl | rfl <;> simp [pw]
theorem wE {b : Int} (h1 : 1 ≤ b) (h8 : b ≤ 8) : 2 ≤ pw b ∧ pw b ≤ 256 := by have := Mk h1 h8; omega
theorem MZ (b : Int) (w : World) : Calls Tryz.prog 173 #[.int .i64 b] w fun e w' => e = .returned (.bool (aQ b 1 8)) ∧ w' = w := by
 go_enter Tryz.func173, Tryz.ntmps173
 go_wp2_with (go_at_call 25; refine (iX _ _ _ _).mono ?_; rintro e w' ⟨rfl, rfl⟩)
 go_ret
 exact ⟨rfl, rfl⟩
theorem Dq (b : Int) (w : World) (h1 : 1 ≤ b) (h8 : b ≤ 8) : Calls Tryz.prog 167 #[.int .i64 b] w fun e w' => e = .returned (.int .i64 (pw b - 1)) ∧ w' = w := by
 rcases Gv h1 h8 with rfl | rfl | rfl | rfl | rfl | rfl | rfl | rfl
 all_goals
  go_enter Tryz.func167, Tryz.ntmps167
  go_wp2_with fail
  go_ret
  exact ⟨rfl, rfl⟩
def rR (n b : Int) : Bool := decide (0 ≤ n ∧ n ≤ 268435456 ∧ 1 ≤ b ∧ b ≤ 8)
theorem Md {n b : Int} (h : rR n b = true) : 0 ≤ n ∧ n ≤ 268435456 ∧ 1 ≤ b ∧ b ≤ 8 := of_decide_eq_true h
theorem VG (n b : Int) : rR n b = (aQ n 0 268435456 && aQ b 1 8) := by
 unfold rR aQ
 by_cases h1 : 0 ≤ n <;> by_cases h2 : n ≤ 268435456 <;> by_cases h3 : 1 ≤ b <;> by_cases h4 : b ≤ 8 <;> simp [h1, h2, h3, h4]
theorem Dn (n b : Int) (w : World) : Calls Tryz.prog 166 #[.int .i64 n, .int .i64 b] w fun e w' => e = .returned (.bool (rR n b)) ∧ w' = w := by
 rw [VG]
 cases h1 : aQ n 0 268435456
 ·go_enter Tryz.func166, Tryz.ntmps166
  go_wp2_with (first | (go_at_call 25; refine (iX _ _ _ _).mono ?_; rw [h1]; rintro e w' ⟨rfl, rfl⟩) | (go_at_call 173; refine (MZ _ _).mono ?_; rintro e w' ⟨rfl, rfl⟩))
  go_ret
  exact ⟨rfl, rfl⟩
 ·go_enter Tryz.func166, Tryz.ntmps166
  go_wp2_with (first | (go_at_call 25; refine (iX _ _ _ _).mono ?_; rw [h1]; rintro e w' ⟨rfl, rfl⟩) | (go_at_call 173; refine (MZ _ _).mono ?_; rintro e w' ⟨rfl, rfl⟩))
  go_ret
  exact ⟨rfl, rfl⟩
def cB (s : ByteArray) : List Int := s.data.toList.map fun c => (c.toNat : Int)
theorem mJ (s : ByteArray) : (cB s).length = s.size := by unfold cB; rw [List.length_map, Array.length_toList]; rfl
theorem M6 (s : ByteArray) (i : Nat) (h : i < s.size) : (cB s).drop i = (s[i].toNat : Int) :: (cB s).drop (i + 1) := by
 have hl : i < (cB s).length := by rw [mJ]; exact h
 rw [List.drop_eq_getElem_cons hl]
 congr 1
 simp [cB]; rfl
theorem GU (s : ByteArray) : ∀ x ∈ cB s, 0 ≤ x ∧ x ≤ 255 := by
 intro x hx
 simp only [cB, List.mem_map] at hx
 obtain ⟨c, _, rfl⟩ := hx
 have := c.toNat_lt
 omega
theorem GV {s : ByteArray} (h : 0 < s.size) : cB s = (s[0].toNat : Int) :: (cB s).drop 1 := by
 have := M6 s 0 h
 simpa using this
theorem Al {s : ByteArray} (h : s.size = 0) : cB s = [] := by
 have := mJ s
 exact List.length_eq_zero_iff.1 (by omega)
theorem uF {l : List Int} (h : ∀ x ∈ l, 0 ≤ x ∧ x ≤ 255) : cB (strOf l) = l := by
 unfold cB strOf
 simp only [List.map_map]
 conv => rhs; rw [← List.map_id l]
 refine List.map_congr_left fun x hx => ?_
 exact M7 (h x hx).1 (h x hx).2
theorem kZ (a b : ByteArray) : cB (a ++ b) = cB a ++ cB b := by
 unfold cB
 rw [ByteArray.data_append, Array.toList_append, List.map_append]
theorem qC {a b : ByteArray} (h : cB a = cB b) : a = b := by
 unfold cB at h
 have h2 : a.data.toList = b.data.toList := by
  have key : ∀ (l m : List UInt8), l.map (fun c => (c.toNat : Int)) = m.map (fun c => (c.toNat : Int)) → l = m := by
   intro l
   induction l with
   | nil => intro m hm; cases m with
    | nil => rfl
    | cons y m => simp at hm
   | cons x l ih => intro m hm; cases m with
    | nil => simp at hm
    | cons y m =>
     simp only [List.map_cons, List.cons.injEq] at hm
     have hxy : x = y := UInt8.toNat_inj.1 (by have := hm.1; omega)
     rw [ih m hm.2, hxy]
  exact key _ _ h
 obtain ⟨⟨x⟩⟩ := a
 obtain ⟨⟨y⟩⟩ := b
 simp at h2
 rw [h2]
theorem GX {s : ByteArray} (h : 0 < s.size) : ¬ s.toList = [] := by
 rw [ByteArray.toList_eq]
 intro e
 have : s.data.toList.length = 0 := by rw [e]; rfl
 rw [Array.length_toList] at this
 have h2 : s.size = s.data.size := rfl
 omega
theorem M8 {s : ByteArray} (h : 0 < s.size) : s.toList.isEmpty = false := by
 rw [List.isEmpty_eq_false_iff]; exact GX h
theorem VH {a b : ByteArray} (h : ¬ a = b) : (a.toList == b.toList) = false := by
 rw [ByteArray.toList_eq, ByteArray.toList_eq]
 have : ¬ a.data.toList = b.data.toList := fun e => h (by cases a; cases b; congr 1; exact Array.toList_inj.1 e)
 simpa using this
theorem nG (a b c : ByteArray) : a ++ b ++ c = a ++ (b ++ c) := qC (by rw [kZ, kZ, kZ, kZ, List.append_assoc])
theorem iZ (a b : ByteArray) : (a ++ b).size = a.size + b.size := by rw [← mJ, kZ, List.length_append, mJ, mJ]
theorem M9 (s : ByteArray) (i j : Nat) : cB (s.extract i j) = ((cB s).take j).drop i := by
 unfold cB
 rw [ByteArray.data_extract, Array.toList_extract, ← List.map_take, ← List.map_drop]
 simp [List.extract, List.drop_take]
theorem VI (a b : ByteArray) : (a ++ b).extract 0 a.size = a := by
 refine qC ?_
 rw [M9, kZ, List.drop_zero, List.take_left' (mJ a)]
theorem Na (a b c : ByteArray) : (a ++ b ++ c).extract a.size (a.size + b.size) = b := by
 refine qC ?_
 rw [M9, kZ, kZ, List.take_left' (by rw [List.length_append, mJ, mJ]), List.drop_left' (mJ a)]
theorem VJ (t : ByteArray) : strOf (cB t) = t := qC (uF (GU t))
theorem GY {a b : ByteArray} (h : (a.toList == b.toList) = true) : a = b := by
 cases Classical.em (a = b) with
 | inl e => exact e
 | inr e => rw [VH e] at h; cases h
theorem DN (a b : ByteArray) : (a ++ b).extract a.size (a ++ b).size = b := by
 have h := Na a b ⟨#[]⟩
 have e : a ++ b ++ (⟨#[]⟩ : ByteArray) = a ++ b := qC (by rw [kZ]; show _ ++ cB ⟨#[]⟩ = _; rw [Al (s := ⟨#[]⟩) rfl, List.append_nil])
 rw [e] at h
 rw [iZ]
 exact h
theorem Am (a : ByteArray) : (⟨#[]⟩ : ByteArray) ++ a = a := qC (by rw [kZ, Al (s := ⟨#[]⟩) rfl, List.nil_append])
theorem Nb (a : ByteArray) : a ++ (⟨#[]⟩ : ByteArray) = a := qC (by rw [kZ, Al (s := ⟨#[]⟩) rfl, List.append_nil])
def nW : Nat → Nat → ByteArray → ByteArray
 | 0, _, acc => acc
 | n + 1, k, acc => if k = 0 then acc else nW n (k / 10) (strOf [48 + ((k % 10 : Nat) : Int)] ++ acc)
theorem VK (n : Nat) (acc : ByteArray) : nW n 0 acc = acc := by cases n <;> simp [nW]
theorem VL {n k : Nat} (h : 0 < k) (hn : k ≤ n) (acc : ByteArray) : ∃ n', k / 10 ≤ n' ∧ nW n k acc = nW n' (k / 10) (strOf [48 + ((k % 10 : Nat) : Int)] ++ acc) := by
 cases n with
 | zero => omega
 | succ n => exact ⟨n, by omega, by simp [nW, Nat.pos_iff_ne_zero.1 h]⟩
def bg (k : Nat) : ByteArray := if k = 0 then ⟨#[109, 48]⟩ else ⟨#[109]⟩ ++ nW k k ⟨#[]⟩
set_option maxHeartbeats 1000000 in
theorem qA (k : Nat) (w : World) (hk : k ≤ 1000000000) :
  Calls Tryz.prog 34 #[.int .i64 k] w fun x w' => x = .returned (.string (bg k)) ∧ Below w.heap.size w w' := by
 by_cases h0 : k = 0
 ·subst h0
  go_enter Tryz.func34, Tryz.ntmps34
  go_wp2_with fail
  go_ret
  exact ⟨rfl, (by repeat' (first | (with_reducible exact Below.refl _ _) | (with_reducible refine Below.drew ?_) | (with_reducible refine ay _ ?_) | (with_reducible refine aA ?_ _) | (refine ah ?_ (by with_reducible assumption)) | (with_reducible refine Below.setCell ?_ ?_ _) | go_size))⟩
 ·obtain ⟨R, hR⟩ : ∃ R, R = nW k k ⟨#[]⟩ := ⟨_, rfl⟩
  have hm : bg k = ⟨#[109]⟩ ++ R := by simp [bg, h0, hR]
  rw [hm]
  clear hm
  have GZ : Hid _ := hR
  clear hR
  go_enter Tryz.func34, Tryz.ntmps34
  go_wp2_with fail
  go_loopw [0, 3] (fun kv ov wr => ∃ (j n : Nat) (acc : ByteArray), kv = .int .i64 j ∧ ov = .string acc ∧ j ≤ n ∧ j ≤ 1000000000 ∧ acc.size + j ≤ 2000000000 ∧ R = nW n j acc ∧ Below w.heap.size w wr) (fun kv _ _ => (intOf kv).toNat)
  case atStart => exact ⟨k, k, ⟨#[]⟩, rfl, rfl, Nat.le_refl _, hk, by simp [ByteArray.size]; omega, GZ.out, Below.refl _ _⟩
  case round =>
   obtain ⟨j, n, acc, rfl, rfl, hjn, hj, hsz, hRj, hb⟩ := hrel
   by_cases hpos : 0 < j
   ·obtain ⟨n', hn', he⟩ := VL hpos hjn acc
    have HR := (show Hid _ from hRj.trans he)
    clear hRj he
    have hcv := iY (l := [48 + ((j % 10 : Nat) : Int)]) (oQ wr 5 (Value.int .u8 (48 + ((j % 10 : Nat) : Int)))) (by intro x hx; simp at hx; omega)
    have hs1 := oP [48 + ((j % 10 : Nat) : Int)]
    obtain ⟨d, hd⟩ : ∃ d : Int, d = 48 + ((j % 10 : Nat) : Int) := ⟨_, rfl⟩
    rw [← hd] at hcv hs1 HR
    have hd1 : (48 : Int) + (j : Int) % 10 = d := by omega
    obtain ⟨S, hS⟩ : ∃ S, S = strOf [d] := ⟨_, rfl⟩
    rw [← hS] at hcv hs1 HR
    simp only [List.length_singleton, List.map_cons, List.map_nil] at hs1 hcv
    have hz : ¬ 9223372036854775807 < S.size + acc.size := by omega
    clear hS hd GZ
    go_wp2_with fail
    exact ⟨⟨j / 10, n', _, by go_num, rfl, hn', by omega, by rw [ByteArray.size_append]; omega, HR.out, aA hb _⟩, by simp [intOf]; omega⟩
   ·obtain rfl : j = 0 := by omega
    rw [VK] at hRj
    have hz : ¬ 9223372036854775807 < 1 + acc.size := by omega
    subst hRj
    clear GZ
    go_wp2_with fail
    go_ret
    exact ⟨rfl, hb⟩
def aj (w : World) (b : Nat) (ty : TypeId) (cs : List Value) : Prop := w.heap[b]? = some (.cells cs.toArray ty (0, 0))
theorem aj.lt {w : World} {b : Nat} {ty : TypeId} {cs : List Value} (h : aj w b ty cs) : b < w.heap.size := (Array.getElem?_eq_some_iff.1 h).1
theorem aj.cell {w : World} {b : Nat} {ty : TypeId} {cs : List Value} (h : aj w b ty cs) {j : Nat} {u : Value} (hu : cs[j]? = some u) : w.cell? ⟨b, j, none⟩ = some u := by
 rw [cell_of_row w b j cs.toArray ty (0, 0) h]; simpa using hu
theorem ak {w : World} {b : Nat} {ty : TypeId} {cs : List Value} (j : Nat) (h : aj w b ty cs) {u : Value} (hu : cs[j]? = some u) : w.cell? ⟨b, j, none⟩ = some u := h.cell hu
theorem jZ {w : World} {b : Nat} {ty : TypeId} {a0 a1 a2 : Value} {r : List Value} (h : aj w b ty (a0 :: a1 :: a2 :: r)) : w.cell? ⟨b, 0, none⟩ = some a0 ∧ w.cell? ⟨b, 1, none⟩ = some a1 ∧ w.cell? ⟨b, 2, none⟩ = some a2 := ⟨ak 0 h rfl, ak 1 h rfl, ak 2 h rfl⟩
theorem wu {w : World} {b : Nat} {ty : TypeId} {a0 a1 a2 a3 : Value} {r : List Value} (h : aj w b ty (a0 :: a1 :: a2 :: a3 :: r)) : w.cell? ⟨b, 0, none⟩ = some a0 ∧ w.cell? ⟨b, 1, none⟩ = some a1 ∧ w.cell? ⟨b, 2, none⟩ = some a2 ∧ w.cell? ⟨b, 3, none⟩ = some a3 := ⟨ak 0 h rfl, ak 1 h rfl, ak 2 h rfl, ak 3 h rfl⟩
theorem zc5 {w : World} {b : Nat} {ty : TypeId} {a0 a1 a2 a3 a4 : Value} {r : List Value} (h : aj w b ty (a0 :: a1 :: a2 :: a3 :: a4 :: r)) : w.cell? ⟨b, 0, none⟩ = some a0 ∧ w.cell? ⟨b, 1, none⟩ = some a1 ∧ w.cell? ⟨b, 2, none⟩ = some a2 ∧ w.cell? ⟨b, 3, none⟩ = some a3 ∧ w.cell? ⟨b, 4, none⟩ = some a4 := ⟨ak 0 h rfl, ak 1 h rfl, ak 2 h rfl, ak 3 h rfl, ak 4 h rfl⟩
theorem zc6 {w : World} {b : Nat} {ty : TypeId} {a0 a1 a2 a3 a4 a5 : Value} {r : List Value} (h : aj w b ty (a0 :: a1 :: a2 :: a3 :: a4 :: a5 :: r)) : w.cell? ⟨b, 0, none⟩ = some a0 ∧ w.cell? ⟨b, 1, none⟩ = some a1 ∧ w.cell? ⟨b, 2, none⟩ = some a2 ∧ w.cell? ⟨b, 3, none⟩ = some a3 ∧ w.cell? ⟨b, 4, none⟩ = some a4 ∧ w.cell? ⟨b, 5, none⟩ = some a5 := ⟨ak 0 h rfl, ak 1 h rfl, ak 2 h rfl, ak 3 h rfl, ak 4 h rfl, ak 5 h rfl⟩
theorem zc7 {w : World} {b : Nat} {ty : TypeId} {a0 a1 a2 a3 a4 a5 a6 : Value} {r : List Value} (h : aj w b ty (a0 :: a1 :: a2 :: a3 :: a4 :: a5 :: a6 :: r)) : w.cell? ⟨b, 0, none⟩ = some a0 ∧ w.cell? ⟨b, 1, none⟩ = some a1 ∧ w.cell? ⟨b, 2, none⟩ = some a2 ∧ w.cell? ⟨b, 3, none⟩ = some a3 ∧ w.cell? ⟨b, 4, none⟩ = some a4 ∧ w.cell? ⟨b, 5, none⟩ = some a5 ∧ w.cell? ⟨b, 6, none⟩ = some a6 := ⟨ak 0 h rfl, ak 1 h rfl, ak 2 h rfl, ak 3 h rfl, ak 4 h rfl, ak 5 h rfl, ak 6 h rfl⟩
theorem zc8 {w : World} {b : Nat} {ty : TypeId} {a0 a1 a2 a3 a4 a5 a6 a7 : Value} {r : List Value} (h : aj w b ty (a0 :: a1 :: a2 :: a3 :: a4 :: a5 :: a6 :: a7 :: r)) : w.cell? ⟨b, 0, none⟩ = some a0 ∧ w.cell? ⟨b, 1, none⟩ = some a1 ∧ w.cell? ⟨b, 2, none⟩ = some a2 ∧ w.cell? ⟨b, 3, none⟩ = some a3 ∧ w.cell? ⟨b, 4, none⟩ = some a4 ∧ w.cell? ⟨b, 5, none⟩ = some a5 ∧ w.cell? ⟨b, 6, none⟩ = some a6 ∧ w.cell? ⟨b, 7, none⟩ = some a7 := ⟨ak 0 h rfl, ak 1 h rfl, ak 2 h rfl, ak 3 h rfl, ak 4 h rfl, ak 5 h rfl, ak 6 h rfl, ak 7 h rfl⟩
theorem zc9 {w : World} {b : Nat} {ty : TypeId} {a0 a1 a2 a3 a4 a5 a6 a7 a8 : Value} {r : List Value} (h : aj w b ty (a0 :: a1 :: a2 :: a3 :: a4 :: a5 :: a6 :: a7 :: a8 :: r)) : w.cell? ⟨b, 0, none⟩ = some a0 ∧ w.cell? ⟨b, 1, none⟩ = some a1 ∧ w.cell? ⟨b, 2, none⟩ = some a2 ∧ w.cell? ⟨b, 3, none⟩ = some a3 ∧ w.cell? ⟨b, 4, none⟩ = some a4 ∧ w.cell? ⟨b, 5, none⟩ = some a5 ∧ w.cell? ⟨b, 6, none⟩ = some a6 ∧ w.cell? ⟨b, 7, none⟩ = some a7 ∧ w.cell? ⟨b, 8, none⟩ = some a8 := ⟨ak 0 h rfl, ak 1 h rfl, ak 2 h rfl, ak 3 h rfl, ak 4 h rfl, ak 5 h rfl, ak 6 h rfl, ak 7 h rfl, ak 8 h rfl⟩
theorem fF {w : World} {b : Nat} {ty : TypeId} {a0 a1 a2 a3 a4 a5 a6 a7 a8 a9 : Value} {r : List Value} (h : aj w b ty (a0 :: a1 :: a2 :: a3 :: a4 :: a5 :: a6 :: a7 :: a8 :: a9 :: r)) : w.cell? ⟨b, 0, none⟩ = some a0 ∧ w.cell? ⟨b, 1, none⟩ = some a1 ∧ w.cell? ⟨b, 2, none⟩ = some a2 ∧ w.cell? ⟨b, 3, none⟩ = some a3 ∧ w.cell? ⟨b, 4, none⟩ = some a4 ∧ w.cell? ⟨b, 5, none⟩ = some a5 ∧ w.cell? ⟨b, 6, none⟩ = some a6 ∧ w.cell? ⟨b, 7, none⟩ = some a7 ∧ w.cell? ⟨b, 8, none⟩ = some a8 ∧ w.cell? ⟨b, 9, none⟩ = some a9 := ⟨ak 0 h rfl, ak 1 h rfl, ak 2 h rfl, ak 3 h rfl, ak 4 h rfl, ak 5 h rfl, ak 6 h rfl, ak 7 h rfl, ak 8 h rfl, ak 9 h rfl⟩
theorem zc11 {w : World} {b : Nat} {ty : TypeId} {a0 a1 a2 a3 a4 a5 a6 a7 a8 a9 kX : Value} {r : List Value} (h : aj w b ty (a0 :: a1 :: a2 :: a3 :: a4 :: a5 :: a6 :: a7 :: a8 :: a9 :: kX :: r)) : w.cell? ⟨b, 0, none⟩ = some a0 ∧ w.cell? ⟨b, 1, none⟩ = some a1 ∧ w.cell? ⟨b, 2, none⟩ = some a2 ∧ w.cell? ⟨b, 3, none⟩ = some a3 ∧ w.cell? ⟨b, 4, none⟩ = some a4 ∧ w.cell? ⟨b, 5, none⟩ = some a5 ∧ w.cell? ⟨b, 6, none⟩ = some a6 ∧ w.cell? ⟨b, 7, none⟩ = some a7 ∧ w.cell? ⟨b, 8, none⟩ = some a8 ∧ w.cell? ⟨b, 9, none⟩ = some a9 ∧ w.cell? ⟨b, 10, none⟩ = some kX := ⟨ak 0 h rfl, ak 1 h rfl, ak 2 h rfl, ak 3 h rfl, ak 4 h rfl, ak 5 h rfl, ak 6 h rfl, ak 7 h rfl, ak 8 h rfl, ak 9 h rfl, ak 10 h rfl⟩
theorem zc12 {w : World} {b : Nat} {ty : TypeId} {a0 a1 a2 a3 a4 a5 a6 a7 a8 a9 kX Ao : Value} {r : List Value} (h : aj w b ty (a0 :: a1 :: a2 :: a3 :: a4 :: a5 :: a6 :: a7 :: a8 :: a9 :: kX :: Ao :: r)) : w.cell? ⟨b, 0, none⟩ = some a0 ∧ w.cell? ⟨b, 1, none⟩ = some a1 ∧ w.cell? ⟨b, 2, none⟩ = some a2 ∧ w.cell? ⟨b, 3, none⟩ = some a3 ∧ w.cell? ⟨b, 4, none⟩ = some a4 ∧ w.cell? ⟨b, 5, none⟩ = some a5 ∧ w.cell? ⟨b, 6, none⟩ = some a6 ∧ w.cell? ⟨b, 7, none⟩ = some a7 ∧ w.cell? ⟨b, 8, none⟩ = some a8 ∧ w.cell? ⟨b, 9, none⟩ = some a9 ∧ w.cell? ⟨b, 10, none⟩ = some kX ∧ w.cell? ⟨b, 11, none⟩ = some Ao := ⟨ak 0 h rfl, ak 1 h rfl, ak 2 h rfl, ak 3 h rfl, ak 4 h rfl, ak 5 h rfl, ak 6 h rfl, ak 7 h rfl, ak 8 h rfl, ak 9 h rfl, ak 10 h rfl, ak 11 h rfl⟩
theorem dw {w : World} {b : Nat} {ty : TypeId} {a0 a1 a2 a3 a4 a5 a6 a7 a8 a9 kX Ao a12 : Value} {r : List Value} (h : aj w b ty (a0 :: a1 :: a2 :: a3 :: a4 :: a5 :: a6 :: a7 :: a8 :: a9 :: kX :: Ao :: a12 :: r)) : w.cell? ⟨b, 0, none⟩ = some a0 ∧ w.cell? ⟨b, 1, none⟩ = some a1 ∧ w.cell? ⟨b, 2, none⟩ = some a2 ∧ w.cell? ⟨b, 3, none⟩ = some a3 ∧ w.cell? ⟨b, 4, none⟩ = some a4 ∧ w.cell? ⟨b, 5, none⟩ = some a5 ∧ w.cell? ⟨b, 6, none⟩ = some a6 ∧ w.cell? ⟨b, 7, none⟩ = some a7 ∧ w.cell? ⟨b, 8, none⟩ = some a8 ∧ w.cell? ⟨b, 9, none⟩ = some a9 ∧ w.cell? ⟨b, 10, none⟩ = some kX ∧ w.cell? ⟨b, 11, none⟩ = some Ao ∧ w.cell? ⟨b, 12, none⟩ = some a12 := ⟨ak 0 h rfl, ak 1 h rfl, ak 2 h rfl, ak 3 h rfl, ak 4 h rfl, ak 5 h rfl, ak 6 h rfl, ak 7 h rfl, ak 8 h rfl, ak 9 h rfl, ak 10 h rfl, ak 11 h rfl, ak 12 h rfl⟩
theorem aj.frozen {w : World} {b : Nat} {ty : TypeId} {cs : List Value} (h : aj w b ty cs) (j : Nat) : w.frozen? ⟨b, j, none⟩ = false := by
 have h' : w.heap[b]? = some (.cells cs.toArray ty (0, 0)) := h
 simp [World.frozen?, h']
theorem aj.kept {w w' : World} {b : Nat} {ty : TypeId} {cs : List Value} (h : aj w b ty cs) (hk : w'.heap[b]? = w.heap[b]?) : aj w' b ty cs := hk.trans h
theorem aj.new {w w' : World} {b : Nat} {ty : TypeId} {cs : List Value} (h : aj w b ty cs) (hb : Below w.heap.size w w') : aj w' b ty cs := h.kept (hb.block b h.lt)
theorem aj.set {w : World} {b : Nat} {ty : TypeId} {cs : List Value} (h : aj w b ty cs) (j : Nat) (v : Value) : aj (w.setCell ⟨b, j, none⟩ v) b ty (cs.set j v) := by
 have h' : w.heap[b]? = some (.cells cs.toArray ty (0, 0)) := h
 unfold aj
 simp [World.setCell, Array.getElem?_modify, h']
theorem aj.alloc {w : World} {b : Nat} {ty : TypeId} {cs : List Value} (h : aj w b ty cs) (o : Obj) : aj (w.alloc o) b ty cs := h.new ((Below.refl _ _).alloc (Nat.le_refl _) _)
theorem aj.far {w : World} {b : Nat} {ty : TypeId} {cs : List Value} (h : aj w b ty cs) (p : Addr) (v : Value) (hp : p.block ≠ b) : aj (w.setCell p v) b ty cs := h.kept (Below.heap_setCell w p v b (fun e => hp e.symm))
theorem aj.drewN {w : World} {b : Nat} {ty : TypeId} {cs : List Value} (h : aj w b ty cs) (n : Nat) : aj (w.drewN n) b ty cs := h
theorem aB (w : World) (ty : TypeId) (cs : List Value) : aj (w.alloc (.cells cs.toArray ty)) w.heap.size ty cs := heap_alloc_last w _
theorem dW {w : World} {b : Nat} {ty : TypeId} {cs cs' : List Value} (h : aj w b ty cs) : aj (w.setRow b cs'.toArray) b ty cs' := setRow_heap w b cs.toArray cs'.toArray ty (0, 0) h
theorem setRow_other (w : World) (g : Nat) (cs : Array Value) (k : Nat) (h : k ≠ g) : (w.setRow g cs).heap[k]? = w.heap[k]? := by
 simp only [World.setRow, Array.getElem?_modify]
 rw [if_neg (fun e => h e.symm)]
theorem setRow_size (w : World) (g : Nat) (cs : Array Value) : (w.setRow g cs).heap.size = w.heap.size := by simp [World.setRow]
theorem below_setRow {B : Nat} {a b : World} (h : Below B a b) {g : Nat} (hg : B ≤ g) (cs : Array Value) : Below B a (b.setRow g cs) :=
 ⟨h.os, h.tape, h.output, by rw [setRow_size]; exact h.size, fun k hk => by rw [setRow_other _ _ _ _ (by omega)]; exact h.block k hk⟩
theorem Turn.setRow {lo hi : Nat} {a b : World} (h : Turn lo hi a b) {g : Nat} (cs : Array Value) (hg : (lo ≤ g ∧ g < hi) ∨ a.heap.size ≤ g) : Turn lo hi a (b.setRow g cs) :=
 ⟨h.os, h.tape, h.output, by rw [setRow_size]; exact h.size, fun k hk h' => by rw [setRow_other _ _ _ _ (by omega)]; exact h.block k hk h'⟩
section
variable {P : Program}
theorem wp_load_row {op : Oper} {a : Act} {w : World} {K : Act → World → Prop} {Q : Exit → Act → World → Prop} (ty : TypeId) (x : Operand) (ho : op.op = .load ty x)
  (b : Nat) (hx : a.eval x = .pointer (some ⟨b, 0, none⟩)) (cs : List Value) (d : TypeDesc) (t : TypeId) (hc : aj w b t cs)
  (hu : P.underlying ty = some d) (hd : (match d with | .struct _ | .array _ _ => true | _ => false) = true) (hi : (P.info? ty).map (·.size) = some cs.length)
  (h : K (a.put op.dst (.agg cs.toArray)) w) : op.wp P a w K Q := by
 unfold Oper.wp execOp
 simp only [ho, hx, Instr.loadAt, Instr.sureAddr, Sem.run_bind, Sem.run_pure, Result.andThen_ok, run_loadVar_row w b t ty cs.toArray (0, 0) d hc hu hd (by simpa using hi)]
 exact h
theorem wpList_load_row {ops : Array Oper} {rest : List Oper} {op : Oper} {a : Act} {w : World} {Q : Exit → Act → World → Prop} (hgd : op.guard = none) (ty : TypeId) (x : Operand) (ho : op.op = .load ty x)
  (b : Nat) (hx : a.eval x = .pointer (some ⟨b, 0, none⟩)) (cs : List Value) (d : TypeDesc) (t : TypeId) (hc : aj w b t cs)
  (hu : P.underlying ty = some d) (hd : (match d with | .struct _ | .array _ _ => true | _ => false) = true) (hi : (P.info? ty).map (·.size) = some cs.length)
  (h : wpList P ops Q rest (a.put op.dst (.agg cs.toArray)) w) : wpList P ops Q (op :: rest) a w :=
 wpList_plain hgd fun _ hK => wp_load_row ty x ho b hx cs d t hc hu hd hi (hK _ _ h)
theorem wpList_store_row {ops : Array Oper} {rest : List Oper} {op : Oper} {a : Act} {w : World} {Q : Exit → Act → World → Prop} (hgd : op.guard = none) (ty : TypeId) (x y : Operand) (ho : op.op = .store ty x y)
  (b : Nat) (cs : List Value) (hx : a.eval x = .pointer (some ⟨b, 0, none⟩)) (hy : a.eval y = .agg cs.toArray) (t : TypeId) (old : List Value) (hc : aj w b t old)
  (hi : (P.info? ty).map (·.size) = some cs.length) (hl : old.length = cs.length) (h1 : ∀ u ∈ cs, u.oneCell' = true)
  (h : wpList P ops Q rest (a.put op.dst undef) (w.setRow b cs.toArray)) : wpList P ops Q (op :: rest) a w :=
 wpList_plain hgd fun _ hK => wp_store_row ty x y ho b cs.toArray hx hy t old.toArray hc (by simpa using hi) (by simpa using hl) (Array.all_eq_true_iff_forall_mem.2 (fun v hv => h1 v (by simpa using hv))) (hK _ _ h)
theorem wJ {ops : Array Oper} {rest : List Oper} {op : Oper} {a : Act} {w : World} {Q : Exit → Act → World → Prop} (hgd : op.guard = none) (ty : TypeId) (ho : op.op = .alloc ty)
  (cs : List Value) (hz : ∀ w, (zeroValue ty).run P w = .ok (.agg cs.toArray) w)
  (h : wpList P ops Q rest (a.put op.dst (.pointer (some ⟨w.heap.size, 0, none⟩))) (w.alloc (.cells cs.toArray ty))) : wpList P ops Q (op :: rest) a w :=
 wpList_plain hgd fun _ hK => by
  unfold Oper.wp execOp
  have := hz w
  simp [ho, Instr.alloc, Instr.box, newVar, newRow, newObj, this, Value.cells]
  exact hK _ _ h
end
def fP (w : Int) : Bool := aQ w (-16777215) 16777215
end Go.Proofs.YtlpbnkideaojeaaGreatDoor
