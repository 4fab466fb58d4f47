/- Several small texts of one level, one behind the other. -/
import Derived.Test.YtfemmnhfllbgjaaGreatDoorQG2
import Derived.WalkKit
import Derived.ProofKit
import Derived.OpenShut
import Derived.Lib.SmallJoins
import Derived.Handy
import Derived.ChangeOld
import Derived.Laws.Tables
import Derived.Laws.Rows
import Derived.Deep.WholeRow
import Derived.Laws.AppendOwn
import Derived.Deep.AppendLies
import Derived.Maps.AppendAt
import Derived.Laws.IdiomStrings
import Derived.Lib.BufferRead
import Derived.ShutString
import Derived.Below
/- Data in memory, whatever its make: what cells read as, what of it is owned and in which blocks, rows of it; and what becomes of both when other blocks turn. -/
namespace Go.Proofs.YtfemmnhfllbgjaaGreatDoor
open Go.RowKit
set_option maxRecDepth 100000
set_option linter.unusedSimpArgs false
set_option linter.unusedVariables false

/-- A make of data: how many cells it takes, its type, what its cells read as, and what they own. -/
structure Shp (D : Type) where
  size : Nat
  ty : TypeId
  rd : World → List Value → D → Prop
  own : World → List Value → D → List Nat → Prop
  pos : 0 < size
  rd_len : ∀ {w : World} {cs : List Value} {d : D}, rd w cs d → cs.length = size
  rd_one : ∀ {w : World} {cs : List Value} {d : D}, rd w cs d → ∀ u ∈ cs, u.oneCell' = true
  rd_new : ∀ {w w' : World} {cs : List Value} {d : D}, rd w cs d → Below w.heap.size w w' → rd w' cs d
  own_rd : ∀ {w : World} {cs : List Value} {d : D} {bs : List Nat}, own w cs d bs → rd w cs d
  own_keep : ∀ {w w' : World} {cs : List Value} {d : D} {bs : List Nat}, own w cs d bs → w.heap.size ≤ w'.heap.size → (∀ b ∈ bs, w'.heap[b]? = w.heap[b]?) → own w' cs d bs
  own_lt : ∀ {w : World} {cs : List Value} {d : D} {bs : List Nat}, own w cs d bs → ∀ b ∈ bs, b < w.heap.size

theorem flat_len {α : Type} (f : α → List Value) (s : Nat) (L : List α) (hf : ∀ x ∈ L, (f x).length = s) : (L.flatMap f).length = L.length * s := by
  induction L with
  | nil => simp
  | cons x L ih => simp only [List.flatMap_cons, List.length_append, List.length_cons, hf x (by simp), ih (fun y hy => hf y (by simp [hy])), Nat.succ_mul]; omega
theorem flat_at {α : Type} (f : α → List Value) (s : Nat) (L : List α) (hf : ∀ x ∈ L, (f x).length = s) (i : Nat) (hi : i < L.length) (r : Nat) (hr : r < s) : (L.flatMap f)[i * s + r]? = (f L[i])[r]? := by
  induction L generalizing i with
  | nil => exact absurd hi (Nat.not_lt_zero _)
  | cons x L ih =>
    have hx := hf x (by simp)
    cases i with
    | zero => simp only [List.flatMap_cons, Nat.zero_mul, Nat.zero_add]; rw [List.getElem?_append_left (by rw [hx]; omega)]; rfl
    | succ i =>
      simp only [List.flatMap_cons]
      rw [List.getElem?_append_right (by rw [hx, Nat.succ_mul]; omega), hx, show (i + 1) * s + r - s = i * s + r by rw [Nat.succ_mul]; omega]
      simpa using ih (fun y hy => hf y (by simp [hy])) i (by simpa using hi)
theorem flat_put {α : Type} (f : α → List Value) (s : Nat) (L : List α) (hf : ∀ x ∈ L, (f x).length = s) (i : Nat) (hi : i < L.length) (r : Nat) (hr : r < s) (u : Value) (y : α) (hy : f y = (f L[i]).set r u) : (L.flatMap f).set (i * s + r) u = (L.set i y).flatMap f := by
  induction L generalizing i with
  | nil => exact absurd hi (Nat.not_lt_zero _)
  | cons x L ih =>
    have hx := hf x (by simp)
    cases i with
    | zero =>
      simp only [List.flatMap_cons, Nat.zero_mul, Nat.zero_add, List.set_cons_zero]
      rw [List.set_append_left _ _ (by rw [hx]; omega), hy]; rfl
    | succ i =>
      simp only [List.flatMap_cons, List.set_cons_succ]
      rw [List.set_append_right _ _ (by rw [hx, Nat.succ_mul]; omega), hx, show (i + 1) * s + r - s = i * s + r by rw [Nat.succ_mul]; omega]
      rw [ih (fun z hz => hf z (by simp [hz])) i (by simpa using hi) (by simpa using hy)]

section
variable {D : Type} (E : Shp D)
/-- The slice v reads as the list L. -/
def RdR (w : World) (v : Value) (L : List D) : Prop :=
  ∃ ts : List (List Value × D), L = ts.map (·.2) ∧ Reads w v ts.length E.size (ts.flatMap (·.1)) ∧ ∀ t ∈ ts, E.rd w t.1 t.2
/-- The slice v reads as L, its row and all behind it are owned and lie in blocks bs. -/
def OwR (w : World) (v : Value) (L : List D) (bs : List Nat) : Prop :=
  ∃ ts : List (List Value × D × List Nat), L = ts.map (·.2.1) ∧ w.ownsRow 0 E.ty E.size v ts.length (ts.flatMap (·.1)) ∧ (∀ t ∈ ts, E.own w t.1 t.2.1 t.2.2) ∧ bs = v.ownBlock.toList ++ ts.flatMap (·.2.2)
/-- The same, all in blocks lo .. hi - 1, no two lists in one block. -/
def OwX (w : World) (lo hi : Nat) (v : Value) (L : List D) : Prop := ∃ bs, OwR E w v L bs ∧ bs.Nodup ∧ ∀ b ∈ bs, lo ≤ b ∧ b < hi
/-- One datum, owned, all behind it in blocks lo .. hi - 1. -/
def OwE (w : World) (lo hi : Nat) (cs : List Value) (d : D) : Prop := ∃ bs, E.own w cs d bs ∧ bs.Nodup ∧ ∀ b ∈ bs, lo ≤ b ∧ b < hi
end
section
variable {D : Type} {E : Shp D}
theorem RdR.form {w : World} {v : Value} {L : List D} (h : RdR E w v L) : ∃ ad cap, v = .slice ad L.length cap ∧ L.length ≤ cap ∧ cap ≤ 9223372036854775807 := by
  obtain ⟨ts, rfl, hr, _⟩ := h
  obtain ⟨_, ad, cap, rfl, h1, h2, _⟩ := hr
  exact ⟨ad, cap, by simp, by simpa using h1, by unfold maxLen at h2; omega⟩
theorem RdR.new {w w' : World} {v : Value} {L : List D} (h : RdR E w v L) (hb : Below w.heap.size w w') : RdR E w' v L := by
  obtain ⟨ts, rfl, hr, hE⟩ := h
  exact ⟨ts, rfl, hr.new hb, fun t ht => E.rd_new (hE t ht) hb⟩
theorem RdR.at {w : World} {ad : Option Addr} {n cap : Nat} {L : List D} (h : RdR E w (.slice ad n cap) L) (k : Nat) (hk : k < L.length) :
    ∃ b o cs, ad = some ⟨b, o, none⟩ ∧ b < w.heap.size ∧ E.rd w cs L[k] ∧ ∀ r u, cs[r]? = some u → w.cell? ⟨b, o + k * E.size + r, none⟩ = some u := by
  obtain ⟨ts, rfl, hr, hE⟩ := h
  have hk' : k < ts.length := by simpa using hk
  obtain ⟨hl, ad', cap', he, h1, h2, h3⟩ := hr
  obtain ⟨b, o, rfl, hb, hc⟩ := h3 (by omega)
  simp only [Value.slice.injEq] at he
  have hm := hE _ (List.getElem_mem hk')
  refine ⟨b, o, (ts[k]).1, he.1, hb, by simpa using hm, fun r u hu => (Nat.add_assoc o (k * E.size) r).symm ▸ hc _ _ ?_⟩
  have hrs : r < E.size := by
    rw [← E.rd_len hm]
    exact (List.getElem?_eq_some_iff.1 hu).1
  rw [flat_at (fun t : List Value × D => t.1) E.size ts (fun t ht => E.rd_len (hE t ht)) k hk' r hrs]
  exact hu
theorem OwR.rd {w : World} {v : Value} {L : List D} {bs : List Nat} (h : OwR E w v L bs) : RdR E w v L := by
  obtain ⟨ts, rfl, ho, hE, rfl⟩ := h
  refine ⟨ts.map fun t => (t.1, t.2.1), by simp [Function.comp_def], ?_, fun t ht => ?_⟩
  · have := reads_of_owns ho
    simpa [List.flatMap_map] using this
  · obtain ⟨t', ht', rfl⟩ := List.mem_map.1 ht
    exact E.own_rd (hE t' ht')
theorem OwR.lt {w : World} {v : Value} {L : List D} {bs : List Nat} (h : OwR E w v L bs) : ∀ b ∈ bs, b < w.heap.size := by
  obtain ⟨ts, rfl, ho, hE, rfl⟩ := h
  intro b hb
  rcases List.mem_append.1 hb with hb | hb
  · cases hv : v.ownBlock with
    | none => rw [hv] at hb; cases hb
    | some g => rw [hv] at hb; simp at hb; subst hb; exact (ho.lt b hv).2
  · obtain ⟨t, ht, hbt⟩ := List.mem_flatMap.1 hb
    exact E.own_lt (hE t ht) b hbt
theorem OwR.keep {w w' : World} {v : Value} {L : List D} {bs : List Nat} (h : OwR E w v L bs) (hs : w.heap.size ≤ w'.heap.size) (hk : ∀ b ∈ bs, w'.heap[b]? = w.heap[b]?) : OwR E w' v L bs := by
  obtain ⟨ts, rfl, ho, hE, rfl⟩ := h
  refine ⟨ts, rfl, owns_kept ho fun g hg _ => hk g (by simp [hg]), fun t ht => E.own_keep (hE t ht) hs fun b hb => hk b ?_, rfl⟩
  exact List.mem_append_right _ (List.mem_flatMap.2 ⟨t, ht, hb⟩)
theorem OwX.rd {w : World} {lo hi : Nat} {v : Value} {L : List D} (h : OwX E w lo hi v L) : RdR E w v L := by obtain ⟨bs, h, _⟩ := h; exact h.rd
theorem OwX.new {w w' : World} {lo hi : Nat} {v : Value} {L : List D} (h : OwX E w lo hi v L) (hb : Below w.heap.size w w') : OwX E w' lo hi v L := by
  obtain ⟨bs, h1, h2, h3⟩ := h
  exact ⟨bs, h1.keep hb.size fun b hb' => hb.block b (h1.lt b hb'), h2, h3⟩
theorem OwX.turn {w w' : World} {lo hi lo' hi' : Nat} {v : Value} {L : List D} (h : OwX E w lo hi v L) (ht : Turn lo' hi' w w') (hd : hi ≤ lo' ∨ hi' ≤ lo) : OwX E w' lo hi v L := by
  obtain ⟨bs, h1, h2, h3⟩ := h
  exact ⟨bs, h1.keep ht.size fun b hb' => ht.block b (h1.lt b hb') (by have := h3 b hb'; omega), h2, h3⟩
theorem OwX.far {w : World} {lo hi : Nat} {v : Value} {L : List D} (h : OwX E w lo hi v L) (p : Addr) (u : Value) (hp : p.block < lo ∨ hi ≤ p.block) : OwX E (w.setCell p u) lo hi v L := by
  obtain ⟨bs, h1, h2, h3⟩ := h
  exact ⟨bs, h1.keep (by simp) fun b hb' => Below.heap_setCell w p u b (fun e => by have := h3 b hb'; omega), h2, h3⟩
theorem OwX.wide {w : World} {lo hi lo' hi' : Nat} {v : Value} {L : List D} (h : OwX E w lo hi v L) (h1 : lo' ≤ lo) (h2 : hi ≤ hi') : OwX E w lo' hi' v L := by
  obtain ⟨bs, a, b, c⟩ := h
  exact ⟨bs, a, b, fun x hx => by have := c x hx; omega⟩
/-- What is owned lies in memory: its upper end may be told so. -/
theorem OwX.top {w : World} {lo hi : Nat} {v : Value} {L : List D} (h : OwX E w lo hi v L) : OwX E w lo w.heap.size v L := by
  obtain ⟨bs, a, b, c⟩ := h
  exact ⟨bs, a, b, fun x hx => ⟨(c x hx).1, a.lt x hx⟩⟩
theorem OwX.form {w : World} {lo hi : Nat} {v : Value} {L : List D} (h : OwX E w lo hi v L) : ∃ ad cap, v = .slice ad L.length cap ∧ L.length ≤ cap ∧ cap ≤ 9223372036854775807 := h.rd.form
theorem OwX.own {w : World} {lo hi : Nat} {v : Value} {L : List D} (h : OwX E w lo hi v L) : ∀ q, v.ownBlock = some q → lo ≤ q ∧ q < hi := by
  obtain ⟨bs, ⟨ts, rfl, ho, hE, rfl⟩, b, c⟩ := h
  intro q hq
  exact c q (by simp [hq])
theorem OwX.ge {w : World} {lo hi b : Nat} {v : Value} {L : List D} (h : OwX E w lo hi v L) (hb : b < lo) : v.ownBlock ≠ some b := fun hq => by have := (h.own b hq).1; omega
theorem OwE.new {w w' : World} {lo hi : Nat} {cs : List Value} {d : D} (h : OwE E w lo hi cs d) (hb : Below w.heap.size w w') : OwE E w' lo hi cs d := by
  obtain ⟨bs, h1, h2, h3⟩ := h
  exact ⟨bs, E.own_keep h1 hb.size fun b hb' => hb.block b (E.own_lt h1 b hb'), h2, h3⟩
theorem OwE.turn {w w' : World} {lo hi lo' hi' : Nat} {cs : List Value} {d : D} (h : OwE E w lo hi cs d) (ht : Turn lo' hi' w w') (hd : hi ≤ lo' ∨ hi' ≤ lo) : OwE E w' lo hi cs d := by
  obtain ⟨bs, h1, h2, h3⟩ := h
  exact ⟨bs, E.own_keep h1 ht.size fun b hb' => ht.block b (E.own_lt h1 b hb') (by have := h3 b hb'; omega), h2, h3⟩
theorem OwE.wide {w : World} {lo hi lo' hi' : Nat} {cs : List Value} {d : D} (h : OwE E w lo hi cs d) (h1 : lo' ≤ lo) (h2 : hi ≤ hi') : OwE E w lo' hi' cs d := by
  obtain ⟨bs, a, b, c⟩ := h
  exact ⟨bs, a, b, fun x hx => by have := c x hx; omega⟩
theorem OwE.rd {w : World} {lo hi : Nat} {cs : List Value} {d : D} (h : OwE E w lo hi cs d) : E.rd w cs d := by obtain ⟨bs, a, _⟩ := h; exact E.own_rd a

theorem nodup_left {a b : List Nat} (h : (a ++ b).Nodup) : a.Nodup := (List.nodup_append.1 h).1
theorem nodup_right {a b : List Nat} (h : (a ++ b).Nodup) : b.Nodup := (List.nodup_append.1 h).2.1
theorem nodup_apart {a b : List Nat} (h : (a ++ b).Nodup) : ∀ x ∈ a, x ∉ b := fun x hx hb => (List.nodup_append.1 h).2.2 x hx x hb rfl
theorem nodup_mk {a b : List Nat} (h1 : a.Nodup) (h2 : b.Nodup) (h3 : ∀ x ∈ a, x ∉ b) : (a ++ b).Nodup := List.nodup_append.2 ⟨h1, h2, fun x hx y hy e => h3 x hx (e ▸ hy)⟩
theorem opt_nodup (o : Option Nat) : o.toList.Nodup := by cases o <;> simp

/-- An empty row. -/
theorem owX_nil (w : World) (lo hi : Nat) : OwX E w lo hi (.slice none 0 0) [] := ⟨[], ⟨[], rfl, World.ownsRow_nil w 0 E.ty E.size, fun t ht => by simp at ht, by simp [Value.ownBlock]⟩, by simp, fun b hb => by simp at hb⟩
theorem owX_empty (w : World) (hi : Nat) (hhi : w.heap.size < hi) : OwX E (w.alloc (.cells #[] E.ty)) w.heap.size hi (.slice (some ⟨w.heap.size, 0, none⟩) 0 0) [] :=
  ⟨[w.heap.size], ⟨[], rfl, World.ownsRow_made w #[] 0 (Nat.zero_le _) (Nat.zero_le _) (by simp), fun t ht => by simp at ht, by simp [Value.ownBlock]⟩, by simp, fun b hb => by simp at hb; omega⟩
/-- A row with one more: what append leaves. -/
theorem OwX.app {w w' : World} {lo mid hi : Nat} {v v' : Value} {L : List D} {cs : List Value} {d : D} {ts : List (List Value × D × List Nat)} (hL : L = ts.map (·.2.1)) (ho : w.ownsRow 0 E.ty E.size v ts.length (ts.flatMap (·.1))) (hE : ∀ t ∈ ts, E.own w t.1 t.2.1 t.2.2)
    (hn : (v.ownBlock.toList ++ ts.flatMap (·.2.2)).Nodup) (hb : ∀ b ∈ v.ownBlock.toList ++ ts.flatMap (·.2.2), lo ≤ b ∧ b < mid) (hmid : mid ≤ w.heap.size) (hlo : lo ≤ w.heap.size) (hd : OwE E w mid hi cs d) (hlm : lo ≤ mid)
    (ho' : w'.ownsRow 0 E.ty E.size v' (ts.length + 1) (ts.flatMap (·.1) ++ cs)) (hg : w.grownBy w' v.ownBlock) (hv' : v'.ownBlock = v.ownBlock ∨ v'.ownBlock = some w.heap.size) : OwX E w' lo w'.heap.size v' (L ++ [d]) := by
  obtain ⟨b2, hd1, hd2, hd3⟩ := hd
  have hsub : ∀ x ∈ ts.flatMap (·.2.2), x < mid ∧ lo ≤ x := fun x hx => by have := hb x (List.mem_append_right _ hx); omega
  have hkeep : ∀ x, x < w.heap.size → (∀ g, v.ownBlock = some g → x ≠ g) → w'.heap[x]? = w.heap[x]? := fun x hx hne => hg.block x hx (fun e => by
    cases hv : v.ownBlock with
    | none => rw [hv] at e; simp at e
    | some g => rw [hv] at e; simp at e; exact hne g hv e)
  have hap := nodup_apart hn
  have hlt2 := E.own_lt hd1
  have hvg : ∀ g, v.ownBlock = some g → g < mid ∧ lo ≤ g := fun g hg => by have := hb g (by simp [hg]); omega
  refine ⟨v'.ownBlock.toList ++ (ts.flatMap (·.2.2) ++ b2), ⟨ts ++ [(cs, d, b2)], by simp [hL], by simpa using ho', fun t ht => ?_, by simp⟩, ?_, ?_⟩
  · rcases List.mem_append.1 ht with ht | ht
    · refine E.own_keep (hE t ht) hg.size fun x hx => ?_
      have hx' : x ∈ ts.flatMap (·.2.2) := List.mem_flatMap.2 ⟨t, ht, hx⟩
      exact hkeep x (E.own_lt (hE t ht) x hx) fun g hgv e => hap g (by simp [hgv]) (e ▸ hx')
    · simp at ht
      subst ht
      refine E.own_keep hd1 hg.size fun x hx => hkeep x (hlt2 x hx) fun g hgv e => ?_
      have := hvg g hgv
      have := hd3 x hx
      omega
  · refine nodup_mk (opt_nodup _) (nodup_mk (nodup_right hn) hd2 fun x hx hx2 => ?_) fun x hx hx2 => ?_
    · have := hsub x hx; have := hd3 x hx2; omega
    · have hxv : v'.ownBlock = some x := by cases hv : v'.ownBlock <;> simp [hv] at hx ⊢; exact hx.symm
      rcases hv' with e | e
      · have hxo := e ▸ hxv
        rcases List.mem_append.1 hx2 with h | h
        · exact hap x (by simp [hxo]) h
        · have := hvg x hxo; have := hd3 x h; omega
      · have : x = w.heap.size := by rw [hxv] at e; exact Option.some.inj e
        rcases List.mem_append.1 hx2 with h | h
        · have := (hsub x h).1; omega
        · have := hlt2 x h; omega
  · intro x hx
    have hs := hg.size
    rcases List.mem_append.1 hx with hx | hx
    · have hxv : v'.ownBlock = some x := by cases hv : v'.ownBlock <;> simp [hv] at hx ⊢; exact hx.symm
      have h2 := (ho'.lt x hxv).2
      rcases hv' with e | e
      · have := hvg x (e ▸ hxv); omega
      · have : x = w.heap.size := by rw [hxv] at e; exact Option.some.inj e
        omega
    · rcases List.mem_append.1 hx with h | h
      · have := hsub x h; omega
      · have := hd3 x h; have := hlt2 x h; omega
theorem mem_of_getElem {α : Type} {L : List α} {k : Nat} (h : k < L.length) : L[k] ∈ L := List.getElem_mem h
theorem flat_same {α β : Type} (f : α → List β) (L : List α) (k : Nat) (hk : k < L.length) (y : α) (hy : f y = f L[k]) : (L.set k y).flatMap f = L.flatMap f := by
  induction L generalizing k with
  | nil => rfl
  | cons x L ih =>
    cases k with
    | zero => simp at hy; simp [hy]
    | succ k => simp only [List.set_cons_succ, List.flatMap_cons]; rw [ih k (by simpa using hk) (by simpa using hy)]
end
/-- Cells written one behind the other, from o on. -/
def setsFrom (w : World) (g o : Nat) : List Value → World
  | [] => w
  | c :: cs => setsFrom (w.setCell ⟨g, o, none⟩ c) g (o + 1) cs
theorem setsFrom_size (g : Nat) : ∀ (cs : List Value) (w : World) (o : Nat), (setsFrom w g o cs).heap.size = w.heap.size
  | [], w, o => rfl
  | c :: cs, w, o => by simp only [setsFrom]; rw [setsFrom_size g cs]; simp
theorem setsFrom_other (g : Nat) : ∀ (cs : List Value) (w : World) (o k : Nat), k ≠ g → (setsFrom w g o cs).heap[k]? = w.heap[k]?
  | [], w, o, k, h => rfl
  | c :: cs, w, o, k, h => by simp only [setsFrom]; rw [setsFrom_other g cs _ _ k h]; exact Below.heap_setCell w _ c k h
theorem setsFrom_below {B : Nat} {a : World} (g : Nat) (hg : B ≤ g) : ∀ (cs : List Value) (w : World) (o : Nat), Below B a w → Below B a (setsFrom w g o cs)
  | [], w, o, h => h
  | c :: cs, w, o, h => by simp only [setsFrom]; exact setsFrom_below g hg cs _ _ (h.setCell (by simpa using hg) c)
theorem set_at {α : Type} (xs ys : List α) (u : α) : (xs ++ ys).set xs.length u = xs ++ ys.set 0 u := by
  rw [List.set_append_right _ _ (Nat.le_refl _), Nat.sub_self]
theorem owns_sets {base : Nat} {e : TypeId} {size : Nat} {v : Value} {n g : Nat} (hg : v.ownBlock = some g) : ∀ (cs : List Value) (w : World) (A B C : List Value), w.ownsRow base e size v n (A ++ B ++ C) → B.length = cs.length → (setsFrom w g A.length cs).ownsRow base e size v n (A ++ cs ++ C)
  | [], w, A, B, C, h, hl => by
    have : B = [] := List.length_eq_zero_iff.1 hl
    subst this
    exact h
  | c :: cs, w, A, [], C, h, hl => by simp at hl
  | c :: cs, w, A, b :: B, C, h, hl => by
    simp only [setsFrom]
    have h1 := owns_set h hg A.length c
    rw [List.append_assoc, set_at] at h1
    simp only [List.cons_append, List.set_cons_zero] at h1
    have h2 := owns_sets hg cs (w.setCell ⟨g, A.length, none⟩ c) (A ++ [c]) B C (by simpa using h1) (by simpa using hl)
    simpa using h2
theorem flat_split {α : Type} (f : α → List Value) (L : List α) (k : Nat) (hk : k < L.length) : L.flatMap f = (L.take k).flatMap f ++ f L[k] ++ (L.drop (k + 1)).flatMap f := by
  have h : L.take k ++ L[k] :: L.drop (k + 1) = L := by rw [← List.drop_eq_getElem_cons hk, List.take_append_drop]
  have h2 : (L.take k ++ L[k] :: L.drop (k + 1)).flatMap f = (L.take k).flatMap f ++ f L[k] ++ (L.drop (k + 1)).flatMap f := by rw [List.flatMap_append, List.flatMap_cons, List.append_assoc]
  rw [h] at h2
  exact h2
section
variable {D : Type} {E : Shp D}
/-- One element of a row that is owned: where it lies, what its cells are, and the row behind a change of it. -/
theorem OwR.put {w : World} {v : Value} {L : List D} {bs : List Nat} (h : OwR E w v L bs) (hn : bs.Nodup) (k : Nat) (hk : k < L.length) :
    ∃ g cap cs b, v = .slice (some ⟨g, 0, none⟩) L.length cap ∧ g < w.heap.size ∧ g ∈ bs ∧ g ∉ b ∧ (∀ x ∈ b, x ∈ bs) ∧ b.Nodup ∧ E.own w cs L[k] b ∧ (∀ r u, cs[r]? = some u → w.cell? ⟨g, k * E.size + r, none⟩ = some u) ∧ (∀ j, w.frozen? ⟨g, j, none⟩ = false) ∧
      (∀ r u d', r < E.size → E.own w (cs.set r u) d' b → OwR E (w.setCell ⟨g, k * E.size + r, none⟩ u) v (L.set k d') bs) ∧
      (∀ w' d', E.own w' cs d' b → w.heap.size ≤ w'.heap.size → (∀ x ∈ bs, x ∉ b → w'.heap[x]? = w.heap[x]?) → OwR E w' v (L.set k d') bs) ∧
      (∀ A B C cs' d', cs = A ++ B ++ C → B.length = cs'.length → E.own w (A ++ cs' ++ C) d' b → OwR E (setsFrom w g (k * E.size + A.length) cs') v (L.set k d') bs) := by
  obtain ⟨ts, rfl, ho, hE, rfl⟩ := h
  have hk' : k < ts.length := by simpa using hk
  have hm := List.getElem_mem hk'
  have hlen : ∀ t ∈ ts, t.1.length = E.size := fun t ht => E.rd_len (E.own_rd (hE t ht))
  obtain ⟨g, cap, rfl, hg, hb0, hgl, h1, h2, hc, hf⟩ := owns_open ho (by omega)
  have hap := nodup_apart hn
  have hgb : g ∈ (Value.slice (some ⟨g, 0, none⟩) ts.length cap).ownBlock.toList := by rw [hg]; simp
  have hsub : ∀ x ∈ ts[k].2.2, x ∈ ts.flatMap (·.2.2) := fun x hx => List.mem_flatMap.2 ⟨_, hm, hx⟩
  have hgn : g ∉ ts[k].2.2 := fun hx => hap g hgb (hsub g hx)
  have hbk : ts[k].2.2.Nodup := by
    have : (ts.flatMap (·.2.2)).Nodup := nodup_right hn
    rw [List.flatMap_def] at this
    exact (List.pairwise_flatten.1 this).1 _ (List.mem_map.2 ⟨_, hm, rfl⟩)
  have hoth : ∀ t ∈ ts, g ∉ t.2.2 := fun t ht hx => hap g hgb (List.mem_flatMap.2 ⟨t, ht, hx⟩)
  refine ⟨g, cap, ts[k].1, ts[k].2.2, by simp, hgl, List.mem_append_left _ hgb, hgn, fun x hx => List.mem_append_right _ (hsub x hx), hbk, by simpa using hE _ hm, fun r u hu => hc _ _ ?_, hf, fun r u d' hr hown => ?_, fun w' d' hown hs hkeep => ?_, fun A B C cs' d' hABC hBl hown => ?_⟩
  · have hrs : r < E.size := by rw [← hlen _ hm]; exact (List.getElem?_eq_some_iff.1 hu).1
    rw [flat_at (fun t : List Value × D × List Nat => t.1) E.size ts hlen k hk' r hrs]
    exact hu
  · have hkeepo : ∀ t ∈ ts, E.own (w.setCell ⟨g, k * E.size + r, none⟩ u) t.1 t.2.1 t.2.2 := fun t ht => E.own_keep (hE t ht) (by simp) fun x hx => Below.heap_setCell w _ u x (fun e => hoth t ht (by have e' : x = g := e; rw [← e']; exact hx))
    have hnew : E.own (w.setCell ⟨g, k * E.size + r, none⟩ u) (ts[k].1.set r u) d' ts[k].2.2 := E.own_keep hown (by simp) fun x hx => Below.heap_setCell w _ u x (fun e => hgn (by have e' : x = g := e; rw [← e']; exact hx))
    refine ⟨ts.set k (ts[k].1.set r u, d', ts[k].2.2), by rw [List.map_set], ?_, fun t ht => ?_, ?_⟩
    · have := owns_set ho hg (k * E.size + r) u
      rw [flat_put (fun t : List Value × D × List Nat => t.1) E.size ts hlen k hk' r hr u (ts[k].1.set r u, d', ts[k].2.2) rfl] at this
      simpa using this
    · rcases List.mem_or_eq_of_mem_set ht with ht | rfl
      · exact hkeepo t ht
      · exact hnew
    · rw [flat_same (fun t : List Value × D × List Nat => t.2.2) ts k hk' (ts[k].1.set r u, d', ts[k].2.2) rfl]
  · refine ⟨ts.set k (ts[k].1, d', ts[k].2.2), by rw [List.map_set], ?_, fun t ht => ?_, ?_⟩
    · have hgk : w'.heap[g]? = w.heap[g]? := hkeep g (List.mem_append_left _ hgb) hgn
      have := owns_kept (w' := w') ho fun q hq _ => by rw [hg] at hq; obtain rfl := Option.some.inj hq; exact hgk
      rw [flat_same (fun t : List Value × D × List Nat => t.1) ts k hk' (ts[k].1, d', ts[k].2.2) rfl]
      simpa using this
    · obtain ⟨i, hi, rfl⟩ := List.mem_iff_getElem.1 ht
      have hi' : i < ts.length := by simpa using hi
      by_cases e : i = k
      · subst e; simpa using hown
      · rw [List.getElem_set_ne (by omega)]
        refine E.own_keep (hE _ (List.getElem_mem hi')) hs fun x hx => hkeep x (List.mem_append_right _ (List.mem_flatMap.2 ⟨_, List.getElem_mem hi', hx⟩)) fun hxk => ?_
        have hnf : (ts.flatMap (·.2.2)).Nodup := nodup_right hn
        rw [List.flatMap_def] at hnf
        have hpw := (List.pairwise_flatten.1 hnf).2
        have hlt := List.pairwise_iff_getElem.1 hpw
        rcases Nat.lt_or_gt_of_ne e with h | h
        · exact hlt i k (by simpa using hi') (by simpa using hk') h x (by simpa using hx) x (by simpa using hxk) rfl
        · exact hlt k i (by simpa using hk') (by simpa using hi') h x (by simpa using hxk) x (by simpa using hx) rfl
    · rw [flat_same (fun t : List Value × D × List Nat => t.2.2) ts k hk' (ts[k].1, d', ts[k].2.2) rfl]
  · have hkeepo : ∀ t ∈ ts, E.own (setsFrom w g (k * E.size + A.length) cs') t.1 t.2.1 t.2.2 := fun t ht => E.own_keep (hE t ht) (Nat.le_of_eq (setsFrom_size g _ _ _).symm) fun x hx => setsFrom_other g _ _ _ x (fun e => hoth t ht (e ▸ hx))
    have hnew : E.own (setsFrom w g (k * E.size + A.length) cs') (A ++ cs' ++ C) d' ts[k].2.2 := E.own_keep hown (Nat.le_of_eq (setsFrom_size g _ _ _).symm) fun x hx => setsFrom_other g _ _ _ x (fun e => hgn (e ▸ hx))
    refine ⟨ts.set k (A ++ cs' ++ C, d', ts[k].2.2), by rw [List.map_set], ?_, fun t ht => ?_, ?_⟩
    · have hA : ((ts.take k).flatMap (fun t : List Value × D × List Nat => t.1)).length = k * E.size := by
        rw [flat_len (fun t : List Value × D × List Nat => t.1) E.size (ts.take k) (fun t ht => hlen t (List.mem_of_mem_take ht)), List.length_take, Nat.min_eq_left (by omega)]
      have ho2 := ho
      rw [flat_split (fun t : List Value × D × List Nat => t.1) ts k hk', hABC] at ho2
      have := owns_sets hg cs' w ((ts.take k).flatMap (fun t : List Value × D × List Nat => t.1) ++ A) B (C ++ (ts.drop (k + 1)).flatMap (fun t : List Value × D × List Nat => t.1)) (by simpa using ho2) hBl
      rw [List.length_append, hA] at this
      rw [flat_split (fun t : List Value × D × List Nat => t.1) (ts.set k (A ++ cs' ++ C, d', ts[k].2.2)) k (by simpa using hk')]
      simpa [List.take_set_of_le, List.drop_set_of_lt] using this
    · rcases List.mem_or_eq_of_mem_set ht with ht | rfl
      · exact hkeepo t ht
      · exact hnew
    · rw [flat_same (fun t : List Value × D × List Nat => t.2.2) ts k hk' (A ++ cs' ++ C, d', ts[k].2.2) rfl]
end
section
variable {D : Type} {E : Shp D}
/-- Rows without memory behind their cells: the same as a row of cells. -/
theorem RdR.flat {f : D → List Value} (hf : ∀ w cs d, E.rd w cs d → cs = f d) {w : World} {v : Value} {L : List D} (h : RdR E w v L) : Reads w v L.length E.size (L.flatMap f) := by
  obtain ⟨ts, rfl, hr, hE⟩ := h
  have e : ts.flatMap (fun t => t.1) = (ts.map (fun t => t.2)).flatMap f := by
    rw [List.flatMap_map]
    have hh : ∀ t ∈ ts, t.1 = f t.2 := fun t ht => hf w _ _ (hE t ht)
    clear hr hE
    induction ts with
    | nil => rfl
    | cons t ts ih => simp only [List.flatMap_cons]; rw [ih (fun x hx => hh x (by simp [hx])), ← hh t (by simp)]
  rw [← e]
  simpa using hr
theorem OwX.flat {f : D → List Value} (hf : ∀ w cs d, E.rd w cs d → cs = f d) {w : World} {lo hi : Nat} {v : Value} {L : List D} (h : OwX E w lo hi v L) : w.ownsRow lo E.ty E.size v L.length (L.flatMap f) := by
  obtain ⟨bs, ⟨ts, rfl, ho, hE, rfl⟩, hn, hb⟩ := h
  have e : ts.flatMap (fun t => t.1) = (ts.map (fun t => t.2.1)).flatMap f := by
    rw [List.flatMap_map]
    have hh : ∀ t ∈ ts, t.1 = f t.2.1 := fun t ht => hf w _ _ (E.own_rd (hE t ht))
    clear ho hE hn hb
    induction ts with
    | nil => rfl
    | cons t ts ih => simp only [List.flatMap_cons]; rw [ih (fun x hx => hh x (by simp [hx])), ← hh t (by simp)]
  rw [← e]
  exact owns_base (by simpa using ho) fun k hk => (hb k (by simp [hk])).1
theorem owX_flat {f : D → List Value} {w : World} {lo : Nat} {v : Value} {L : List D} (hf : ∀ d ∈ L, E.own w (f d) d []) (h : w.ownsRow lo E.ty E.size v L.length (L.flatMap f)) : OwX E w lo w.heap.size v L := by
  refine ⟨v.ownBlock.toList, ⟨L.map fun d => (f d, d, []), by simp [Function.comp_def], ?_, fun t ht => ?_, ?_⟩, opt_nodup _, fun b hb => ?_⟩
  · have := owns_base (base' := 0) h fun k _ => Nat.zero_le _
    simpa [List.flatMap_map] using this
  · obtain ⟨d, hd, rfl⟩ := List.mem_map.1 ht
    exact hf d hd
  · have : ∀ M : List D, (M.map fun d => ((f d, d, []) : List Value × D × List Nat)).flatMap (fun t => t.2.2) = [] := fun M => by induction M <;> simp_all
    rw [this]; simp
  · cases hv : v.ownBlock with
    | none => rw [hv] at hb; cases hb
    | some g => rw [hv] at hb; simp at hb; subst hb; exact h.lt b hv
end
/-- Of what was there only the blocks bs have turned. -/
structure TurnB (bs : List Nat) (w w' : World) : Prop where
  os : w'.os = w.os
  tape : w'.tape = w.tape
  output : w'.output = w.output
  size : w.heap.size ≤ w'.heap.size
  block : ∀ k, k < w.heap.size → k ∉ bs → w'.heap[k]? = w.heap[k]?
theorem TurnB.refl (bs : List Nat) (w : World) : TurnB bs w w := ⟨rfl, rfl, rfl, Nat.le_refl _, fun _ _ _ => rfl⟩
theorem TurnB.trans {bs : List Nat} {a b c : World} (h : TurnB bs a b) (k : TurnB bs b c) : TurnB bs a c :=
  ⟨k.os.trans h.os, k.tape.trans h.tape, k.output.trans h.output, Nat.le_trans h.size k.size, fun i hi h' => (k.block i (Nat.lt_of_lt_of_le hi h.size) h').trans (h.block i hi h')⟩
theorem TurnB.wide {bs bs' : List Nat} {a b : World} (h : TurnB bs a b) (hs : ∀ x ∈ bs, x ∈ bs') : TurnB bs' a b := ⟨h.os, h.tape, h.output, h.size, fun k hk hn => h.block k hk fun hx => hn (hs k hx)⟩
theorem TurnB.new {bs : List Nat} {a b : World} (h : Below a.heap.size a b) : TurnB bs a b := ⟨h.os, h.tape, h.output, h.size, fun k hk _ => h.block k hk⟩
theorem TurnB.set {bs : List Nat} {a b : World} (h : TurnB bs a b) (p : Addr) (v : Value) (hp : p.block ∈ bs) : TurnB bs a (b.setCell p v) :=
  ⟨h.os, h.tape, h.output, by simp; exact h.size, fun k hk hn => by rw [Below.heap_setCell b p v k (fun e => hn (by rw [e]; exact hp))]; exact h.block k hk hn⟩
theorem TurnB.setsFrom {bs : List Nat} {a : World} (g : Nat) (hg : g ∈ bs) : ∀ (cs : List Value) (w : World) (o : Nat), TurnB bs a w → TurnB bs a (setsFrom w g o cs)
  | [], w, o, h => h
  | c :: cs, w, o, h => TurnB.setsFrom g hg cs _ _ (h.set _ c (by simpa using hg))
theorem TurnB.turn {bs : List Nat} {a b : World} {lo hi : Nat} (h : TurnB bs a b) (hb : ∀ x ∈ bs, lo ≤ x ∧ x < hi) : Turn lo hi a b := ⟨h.os, h.tape, h.output, h.size, fun k hk hn => h.block k hk fun hx => by have := hb k hx; omega⟩
end Go.Proofs.YtfemmnhfllbgjaaGreatDoor
/- A row that make made. -/
namespace Go.Proofs.YtfemmnhfllbgjaaGreatDoor
open Go.RowKit
set_option maxRecDepth 100000
set_option linter.unusedSimpArgs false
set_option linter.unusedVariables false

theorem make_row (t e : TypeId) (z : Value) (size bytes : Nat) (hu : Tryz.prog.underlying t = some (.slice e)) (hinf : ((Tryz.prog.info? e).map fun i => (i.zero, i.size, i.bytes)) = some (some z, size, bytes)) (hzs : z.cells.size = size) (hs : 0 < size) (hby : bytes ≤ 1000) (R : Nat) (h : R ≤ 1048576) :
    ∃ M : Array Value, M.size = R * size ∧ ∀ X : World, (Instr.makeSlice t (.int .i64 (R : Int)) (.int .i64 (R : Int))).run Tryz.prog X = .ok (.slice (some ⟨X.heap.size, 0, none⟩) R R) (X.alloc (.cells M e)) := by
  obtain ⟨i0, hi, hz0, hz1, hz2⟩ := info_parts (P := Tryz.prog) (e := e) (z := z) (size := size) (bytes := bytes) hinf
  refine ⟨madeCells z.cells (R * size), by rw [size_madeCells], fun X => ?_⟩
  have hb : R * bytes ≤ 1048576 * 1000 := Nat.mul_le_mul h hby
  have hb' : bytes * R ≤ 1048576 * 1000 := by rw [Nat.mul_comm]; exact hb
  have h := run_make (P := Tryz.prog) X t e i0 z hu hi hz0 .i64 .i64 (R : Int) (R : Int) (by omega) (by omega) (by rw [hz2]; first | omega | (rw [Nat.mul_comm]; omega)) (by omega)
  rw [hz1] at h
  simpa using h
theorem owns_made (w : World) (M : Array Value) (e : TypeId) (size R : Nat) (h : M.size = R * size) (hR : R ≤ 1048576) : (w.alloc (.cells M e)).ownsRow w.heap.size e size (.slice (some ⟨w.heap.size, 0, none⟩) R R) R M.toList :=
  ⟨by simp [h], .inr ⟨w.heap.size, R, M, rfl, Nat.le_refl _, heap_alloc_new w _, Nat.le_refl _, by unfold maxLen; omega, h, by rw [← h, ← Array.length_toList, List.take_length]⟩⟩
end Go.Proofs.YtfemmnhfllbgjaaGreatDoor
/- A slice that came in, of elements of whatever make, read as a list. -/
namespace Go.Proofs.YtfemmnhfllbgjaaGreatDoor
open Go.RowKit
set_option maxRecDepth 100000
set_option linter.unusedSimpArgs false
set_option linter.unusedVariables false

open Go.ChangeShapes Go.WideShapes Go.ChangeAt Go.Joins Go.Deep in
theorem open_rows {α : Type} (x0 : α) (f : α → List Value) (size : Nat) (hf : ∀ x, (f x).length = size) (R : α → Prop) {H : Type} {enc : TypeId × Value → H} {W : World} {base : Nat} {spare : Nat → Bool} {held : Bool} {t e : TypeId} {fuel : Nat} {v : Value} {x : DataW H × List MemPlace}
    (ht : Tryz.prog.underlying t = some (.slice e)) (hs : Tryz.prog.cellsOf e = size) (hpos : 0 < size)
    (hel : ∀ cs n y, DataW.trod enc Tryz.prog W base spare held n e cs = some y → ∃ x : α, cs = f x ∧ R x)
    (h : DataW.trod enc Tryz.prog W base spare held fuel t [v] = some x) : ∃ L : List α, Reads W v L.length size (L.flatMap f) ∧ ∀ x ∈ L, R x := by
  have hinh : Inhabited α := ⟨x0⟩
  rcases Deep.open_slice ht h with ⟨hcs, _⟩ | ⟨a, len, cap, m, n, D, Pl, hcs, hb, hl, hm, hmm, _, hx⟩
  · simp only [List.cons.injEq, and_true] at hcs
    subst hcs
    exact ⟨[], ⟨by simp, none, 0, rfl, Nat.le_refl _, Nat.zero_le _, fun h => absurd h (by simp)⟩, fun x hx => by cases hx⟩
  · simp only [List.cons.injEq, and_true] at hcs
    subst hcs
    have hlm : len ≤ m := by rw [hmm]; split <;> omega
    obtain ⟨X, hX⟩ := Deep.choose_lt (α := α) (n := len) (p := fun i x => W.cells? base (a.add (i * size)) size = some (f x) ∧ R x) (fun i hi => by
      obtain ⟨cs', h1, h2⟩ := hx i (by omega)
      rw [hs] at h1
      obtain ⟨x, rfl, hr⟩ := hel cs' _ _ h2
      exact ⟨x, h1, hr⟩)
    have hlen : ((List.range len).map X).length = len := by simp
    have hget : ∀ i (hi : i < len), ((List.range len).map X)[i]'(by simpa using hi) = X i := fun i hi => by simp
    refine ⟨(List.range len).map X, ⟨by rw [flat_length f size hf], some a, cap, by rw [hlen], by rw [hlen]; exact hl, hm, fun hn => ?_⟩, fun x hx => ?_⟩
    · rw [hlen] at hn
      obtain ⟨b, o, sp⟩ := a
      have h0 := (hX 0 hn).1
      have hc0 := (World.cells?_some h0).2.2 0 hpos
      have hsome : (f (X 0))[0]? = some ((f (X 0))[0]'(by rw [hf]; exact hpos)) := List.getElem?_eq_getElem _
      rw [hsome] at hc0
      have hsp : sp = none := by
        cases sp with
        | none => rfl
        | some q => simp [Addr.add, World.cell?] at hc0; split at hc0 <;> simp at hc0
      subst hsp
      have hadd : ∀ i r, ((⟨b, o, none⟩ : Addr).add i).add r = ⟨b, o + (i + r), none⟩ := fun i r => by rw [Deep.add_add]; unfold Addr.add; split <;> simp_all
      refine ⟨b, o, rfl, ?_, fun j u hu => ?_⟩
      · have := hadd (0 * size) 0
        rw [this] at hc0
        exact World.block_lt_of_cell? W _ hc0
      · have hj : j < len * size := by
          have := (List.getElem?_eq_some_iff.1 hu).1
          rw [flat_length f size hf, hlen] at this
          exact this
        have hi : j / size < len := by rw [Nat.div_lt_iff_lt_mul hpos]; exact hj
        have hr : j % size < size := Nat.mod_lt _ hpos
        have hjj : j / size * size + j % size = j := by have := Nat.div_add_mod j size; rw [Nat.mul_comm] at this; exact this
        rw [← hjj, flat_get f size hf _ _ (by rw [hlen]; exact hi) _ hr, hget _ hi] at hu
        have hc := (World.cells?_some (hX _ hi).1).2.2 _ hr
        rw [hadd, hu, hjj] at hc
        exact hc
    · obtain ⟨i, hi, rfl⟩ := List.mem_map.1 hx
      exact (hX i (by simpa using hi)).2

open Go.ChangeShapes Go.WideShapes Go.ChangeAt Go.Joins Go.Deep in
theorem cells3 {H : Type} {enc : TypeId × Value → H} {W : World} {base : Nat} {spare : Nat → Bool} {held : Bool} {t : TypeId} {f0 f1 f2 : Field} {fuel : Nat} {cs : List Value} {x : DataW H × List MemPlace} (hs : Tryz.prog.underlying t = some (.struct #[f0, f1, f2])) (hone : oneCellFields Tryz.prog #[f0, f1, f2] = true) (hC : Tryz.prog.cellsOf t = 3)
    (h : DataW.trod enc Tryz.prog W base spare held fuel t cs = some x) :
    ∃ (c0 c1 c2 : Value) (y0 y1 y2 : DataW H × List MemPlace) (n : Nat), cs = [c0, c1, c2] ∧ DataW.trod enc Tryz.prog W base spare held n f0.type [c0] = some y0 ∧ DataW.trod enc Tryz.prog W base spare held n f1.type [c1] = some y1 ∧ DataW.trod enc Tryz.prog W base spare held n f2.type [c2] = some y2 := by
  obtain ⟨y0, y1, y2, n, hx, hl, h0, h1, h2⟩ := trod_struct3 hs h
  obtain ⟨o0, k0⟩ := hone_of hone 0 f0 rfl
  obtain ⟨o1, k1⟩ := hone_of hone 1 f1 rfl
  obtain ⟨o2, k2⟩ := hone_of hone 2 f2 rfl
  rw [hC] at hl
  match cs, hl with
  | [c0, c1, c2], _ => exact ⟨c0, c1, c2, y0, y1, y2, n, rfl, by simpa [o0, k0] using h0, by simpa [o1, k1] using h1, by simpa [o2, k2] using h2⟩
open Go.ChangeShapes Go.WideShapes Go.ChangeAt Go.Joins Go.Deep in
theorem cells4 {H : Type} {enc : TypeId × Value → H} {W : World} {base : Nat} {spare : Nat → Bool} {held : Bool} {t : TypeId} {f0 f1 f2 f3 : Field} {fuel : Nat} {cs : List Value} {x : DataW H × List MemPlace} (hs : Tryz.prog.underlying t = some (.struct #[f0, f1, f2, f3])) (hone : oneCellFields Tryz.prog #[f0, f1, f2, f3] = true) (hC : Tryz.prog.cellsOf t = 4)
    (h : DataW.trod enc Tryz.prog W base spare held fuel t cs = some x) :
    ∃ (c0 c1 c2 c3 : Value) (y0 y1 y2 y3 : DataW H × List MemPlace) (n : Nat), cs = [c0, c1, c2, c3] ∧ DataW.trod enc Tryz.prog W base spare held n f0.type [c0] = some y0 ∧ DataW.trod enc Tryz.prog W base spare held n f1.type [c1] = some y1 ∧ DataW.trod enc Tryz.prog W base spare held n f2.type [c2] = some y2 ∧ DataW.trod enc Tryz.prog W base spare held n f3.type [c3] = some y3 := by
  obtain ⟨y0, y1, y2, y3, n, hx, hl, h0, h1, h2, h3⟩ := trod_struct4 hs h
  obtain ⟨o0, k0⟩ := hone_of hone 0 f0 rfl
  obtain ⟨o1, k1⟩ := hone_of hone 1 f1 rfl
  obtain ⟨o2, k2⟩ := hone_of hone 2 f2 rfl
  obtain ⟨o3, k3⟩ := hone_of hone 3 f3 rfl
  rw [hC] at hl
  match cs, hl with
  | [c0, c1, c2, c3], _ => exact ⟨c0, c1, c2, c3, y0, y1, y2, y3, n, rfl, by simpa [o0, k0] using h0, by simpa [o1, k1] using h1, by simpa [o2, k2] using h2, by simpa [o3, k3] using h3⟩
end Go.Proofs.YtfemmnhfllbgjaaGreatDoor
/- The marks that the laws write into texts. -/
namespace Go.Proofs.YtfemmnhfllbgjaaGreatDoor
open Go.RowKit
set_option maxRecDepth 100000
set_option linter.unusedSimpArgs false
set_option linter.unusedVariables false

def mtF : Nat → Nat → ByteArray → ByteArray
  | 0, _, acc => acc
  | n + 1, k, acc => if k = 0 then acc else mtF n (k / 10) (strOf [48 + ((k % 10 : Nat) : Int)] ++ acc)
theorem mtF_zero (n : Nat) (acc : ByteArray) : mtF n 0 acc = acc := by cases n <;> simp [mtF]
theorem mtF_step {n k : Nat} (h : 0 < k) (hn : k ≤ n) (acc : ByteArray) : ∃ n', k / 10 ≤ n' ∧ mtF n k acc = mtF n' (k / 10) (strOf [48 + ((k % 10 : Nat) : Int)] ++ acc) := by
  cases n with
  | zero => omega
  | succ n => exact ⟨n, by omega, by simp [mtF, Nat.pos_iff_ne_zero.1 h]⟩
/-- What markText answers at k. -/
def mtx (k : Nat) : ByteArray := if k = 0 then ⟨#[109, 48]⟩ else ⟨#[109]⟩ ++ mtF k k ⟨#[]⟩

end Go.Proofs.YtfemmnhfllbgjaaGreatDoor
/- Bytes of texts as lists of numbers; texts one behind the other, cut, compared. -/
namespace Go.Proofs.YtfemmnhfllbgjaaGreatDoor
open Go.RowKit
set_option maxRecDepth 100000
set_option linter.unusedSimpArgs false
set_option linter.unusedVariables false

/-- The bytes of a text as numbers. -/
def bys (s : ByteArray) : List Int := s.data.toList.map fun c => (c.toNat : Int)
theorem bys_len (s : ByteArray) : (bys s).length = s.size := by unfold bys; rw [List.length_map, Array.length_toList]; rfl
theorem bys_drop (s : ByteArray) (i : Nat) (h : i < s.size) : (bys s).drop i = (s[i].toNat : Int) :: (bys s).drop (i + 1) := by
  have hl : i < (bys s).length := by rw [bys_len]; exact h
  rw [List.drop_eq_getElem_cons hl]
  congr 1
  simp [bys]; rfl
theorem bys_end (s : ByteArray) (i : Nat) (h : s.size ≤ i) : (bys s).drop i = [] := List.drop_eq_nil_of_le (by rw [bys_len]; exact h)
theorem bys_range (s : ByteArray) : ∀ x ∈ bys s, 0 ≤ x ∧ x ≤ 255 := by
  intro x hx
  simp only [bys, List.mem_map] at hx
  obtain ⟨c, _, rfl⟩ := hx
  have := c.toNat_lt
  omega
theorem bys_cons {s : ByteArray} (h : 0 < s.size) : bys s = (s[0].toNat : Int) :: (bys s).drop 1 := by
  have := bys_drop s 0 h
  simpa using this
theorem bys_nil {s : ByteArray} (h : s.size = 0) : bys s = [] := by
  have := bys_len s
  exact List.length_eq_zero_iff.1 (by omega)
theorem bys_strOf {l : List Int} (h : ∀ x ∈ l, 0 ≤ x ∧ x ≤ 255) : bys (strOf l) = l := by
  unfold bys strOf
  simp only [List.map_map]
  conv => rhs; rw [← List.map_id l]
  refine List.map_congr_left fun x hx => ?_
  exact u8_of (h x hx).1 (h x hx).2
theorem bys_append (a b : ByteArray) : bys (a ++ b) = bys a ++ bys b := by
  unfold bys
  rw [ByteArray.data_append, Array.toList_append, List.map_append]
theorem bys_inj {a b : ByteArray} (h : bys a = bys b) : a = b := by
  unfold bys at h
  have h2 : a.data.toList = b.data.toList := by
    have key : ∀ (l m : List UInt8), l.map (fun c => (c.toNat : Int)) = m.map (fun c => (c.toNat : Int)) → l = m := by
      intro l
      induction l with
      | nil => intro m hm; cases m with
        | nil => rfl
        | cons y m => simp at hm
      | cons x l ih => intro m hm; cases m with
        | nil => simp at hm
        | cons y m =>
          simp only [List.map_cons, List.cons.injEq] at hm
          have hxy : x = y := UInt8.toNat_inj.1 (by have := hm.1; omega)
          rw [ih m hm.2, hxy]
    exact key _ _ h
  obtain ⟨⟨x⟩⟩ := a
  obtain ⟨⟨y⟩⟩ := b
  simp at h2
  rw [h2]
theorem size0 {s : ByteArray} (h : s.size = 0) : s = ⟨#[]⟩ := by
  obtain ⟨⟨l⟩⟩ := s
  cases l with
  | nil => rfl
  | cons a l => simp [ByteArray.size] at h
theorem list_ne {s : ByteArray} (h : 0 < s.size) : ¬ s.toList = [] := by
  rw [ByteArray.toList_eq]
  intro e
  have : s.data.toList.length = 0 := by rw [e]; rfl
  rw [Array.length_toList] at this
  have h2 : s.size = s.data.size := rfl
  omega
theorem list_isEmpty {s : ByteArray} (h : 0 < s.size) : s.toList.isEmpty = false := by
  rw [List.isEmpty_eq_false_iff]; exact list_ne h
theorem bys_eq {s t : ByteArray} : s = t ↔ bys s = bys t := ⟨fun h => by rw [h], bys_inj⟩
theorem tl_ne {a b : ByteArray} (h : ¬ a = b) : (a.toList == b.toList) = false := by
  rw [ByteArray.toList_eq, ByteArray.toList_eq]
  have : ¬ a.data.toList = b.data.toList := fun e => h (by cases a; cases b; congr 1; exact Array.toList_inj.1 e)
  simpa using this
theorem ba_append_assoc (a b c : ByteArray) : a ++ b ++ c = a ++ (b ++ c) := bys_inj (by rw [bys_append, bys_append, bys_append, bys_append, List.append_assoc])
theorem ba_size_append (a b : ByteArray) : (a ++ b).size = a.size + b.size := by rw [← bys_len, bys_append, List.length_append, bys_len, bys_len]
theorem bys_extract (s : ByteArray) (i j : Nat) : bys (s.extract i j) = ((bys s).take j).drop i := by
  unfold bys
  rw [ByteArray.data_extract, Array.toList_extract, ← List.map_take, ← List.map_drop]
  simp [List.extract, List.drop_take]
theorem ba_split (s : ByteArray) (i : Nat) (h : i ≤ s.size) : s.extract 0 i ++ s.extract i s.size = s := by
  refine bys_inj ?_
  rw [bys_append, bys_extract, bys_extract, List.drop_zero]
  have : (bys s).take s.size = bys s := List.take_of_length_le (by rw [bys_len]; omega)
  rw [this, List.take_append_drop]
theorem ba_left (a b : ByteArray) : (a ++ b).extract 0 a.size = a := by
  refine bys_inj ?_
  rw [bys_extract, bys_append, List.drop_zero, List.take_left' (bys_len a)]
theorem ba_mid (a b c : ByteArray) : (a ++ b ++ c).extract a.size (a.size + b.size) = b := by
  refine bys_inj ?_
  rw [bys_extract, bys_append, bys_append, List.take_left' (by rw [List.length_append, bys_len, bys_len]), List.drop_left' (bys_len a)]
theorem ba_extract_size {s : ByteArray} {i j : Nat} (h : j ≤ s.size) (hi : i ≤ j) : (s.extract i j).size = j - i := by
  rw [← bys_len, bys_extract, List.length_drop, List.length_take, bys_len]; omega
theorem strOf_bys (t : ByteArray) : strOf (bys t) = t := bys_inj (bys_strOf (bys_range t))
theorem tl_eq {a b : ByteArray} (h : (a.toList == b.toList) = true) : a = b := by
  cases Classical.em (a = b) with
  | inl e => exact e
  | inr e => rw [tl_ne e] at h; cases h
theorem ba_right (a b : ByteArray) : (a ++ b).extract a.size (a ++ b).size = b := by
  have h := ba_mid a b ⟨#[]⟩
  have e : a ++ b ++ (⟨#[]⟩ : ByteArray) = a ++ b := bys_inj (by rw [bys_append]; show _ ++ bys ⟨#[]⟩ = _; rw [bys_nil (s := ⟨#[]⟩) rfl, List.append_nil])
  rw [e] at h
  rw [ba_size_append]
  exact h
theorem ba_nil_append (a : ByteArray) : (⟨#[]⟩ : ByteArray) ++ a = a := bys_inj (by rw [bys_append, bys_nil (s := ⟨#[]⟩) rfl, List.nil_append])
theorem ba_append_nil (a : ByteArray) : a ++ (⟨#[]⟩ : ByteArray) = a := bys_inj (by rw [bys_append, bys_nil (s := ⟨#[]⟩) rfl, List.append_nil])
theorem ba_empty {a : ByteArray} (h : a.size = 0) : a = ⟨#[]⟩ := bys_inj (by rw [bys_nil h, bys_nil (s := ⟨#[]⟩) rfl])
end Go.Proofs.YtfemmnhfllbgjaaGreatDoor
/- A block that holds a long row of cells: read, written and made as a whole, or cell by cell. -/
namespace Go.Proofs.YtfemmnhfllbgjaaGreatDoor
open Go.RowKit
set_option maxRecDepth 100000
set_option linter.unusedSimpArgs false
set_option linter.unusedVariables false

def RowIs (w : World) (b : Nat) (ty : TypeId) (cs : List Value) : Prop := w.heap[b]? = some (.cells cs.toArray ty (0, 0))
theorem RowIs.lt {w : World} {b : Nat} {ty : TypeId} {cs : List Value} (h : RowIs w b ty cs) : b < w.heap.size := (Array.getElem?_eq_some_iff.1 h).1
theorem RowIs.cell {w : World} {b : Nat} {ty : TypeId} {cs : List Value} (h : RowIs w b ty cs) {j : Nat} {u : Value} (hu : cs[j]? = some u) : w.cell? ⟨b, j, none⟩ = some u := by
  rw [cell_of_row w b j cs.toArray ty (0, 0) h]; simpa using hu
theorem RowIs.frozen {w : World} {b : Nat} {ty : TypeId} {cs : List Value} (h : RowIs w b ty cs) (j : Nat) : w.frozen? ⟨b, j, none⟩ = false := by
  have h' : w.heap[b]? = some (.cells cs.toArray ty (0, 0)) := h
  simp [World.frozen?, h']
theorem RowIs.kept {w w' : World} {b : Nat} {ty : TypeId} {cs : List Value} (h : RowIs w b ty cs) (hk : w'.heap[b]? = w.heap[b]?) : RowIs w' b ty cs := hk.trans h
theorem RowIs.new {w w' : World} {b : Nat} {ty : TypeId} {cs : List Value} (h : RowIs w b ty cs) (hb : Below w.heap.size w w') : RowIs w' b ty cs := h.kept (hb.block b h.lt)
theorem RowIs.set {w : World} {b : Nat} {ty : TypeId} {cs : List Value} (h : RowIs w b ty cs) (j : Nat) (v : Value) : RowIs (w.setCell ⟨b, j, none⟩ v) b ty (cs.set j v) := by
  have h' : w.heap[b]? = some (.cells cs.toArray ty (0, 0)) := h
  unfold RowIs
  simp [World.setCell, Array.getElem?_modify, h']
theorem RowIs.alloc {w : World} {b : Nat} {ty : TypeId} {cs : List Value} (h : RowIs w b ty cs) (o : Obj) : RowIs (w.alloc o) b ty cs := h.new ((Below.refl _ _).alloc (Nat.le_refl _) _)
theorem RowIs.far {w : World} {b : Nat} {ty : TypeId} {cs : List Value} (h : RowIs w b ty cs) (p : Addr) (v : Value) (hp : p.block ≠ b) : RowIs (w.setCell p v) b ty cs := h.kept (Below.heap_setCell w p v b (fun e => hp e.symm))
theorem RowIs.drewN {w : World} {b : Nat} {ty : TypeId} {cs : List Value} (h : RowIs w b ty cs) (n : Nat) : RowIs (w.drewN n) b ty cs := h
theorem rowIs_new (w : World) (ty : TypeId) (cs : List Value) : RowIs (w.alloc (.cells cs.toArray ty)) w.heap.size ty cs := heap_alloc_last w _
theorem rowIs_setRow {w : World} {b : Nat} {ty : TypeId} {cs cs' : List Value} (h : RowIs w b ty cs) : RowIs (w.setRow b cs'.toArray) b ty cs' := setRow_heap w b cs.toArray cs'.toArray ty (0, 0) h
theorem setRow_other (w : World) (g : Nat) (cs : Array Value) (k : Nat) (h : k ≠ g) : (w.setRow g cs).heap[k]? = w.heap[k]? := by
  simp only [World.setRow, Array.getElem?_modify]
  rw [if_neg (fun e => h e.symm)]
theorem setRow_size (w : World) (g : Nat) (cs : Array Value) : (w.setRow g cs).heap.size = w.heap.size := by simp [World.setRow]
theorem below_setRow {B : Nat} {a b : World} (h : Below B a b) {g : Nat} (hg : B ≤ g) (cs : Array Value) : Below B a (b.setRow g cs) :=
  ⟨h.os, h.tape, h.output, by rw [setRow_size]; exact h.size, fun k hk => by rw [setRow_other _ _ _ _ (by omega)]; exact h.block k hk⟩
theorem Turn.setRow {lo hi : Nat} {a b : World} (h : Turn lo hi a b) {g : Nat} (cs : Array Value) (hg : (lo ≤ g ∧ g < hi) ∨ a.heap.size ≤ g) : Turn lo hi a (b.setRow g cs) :=
  ⟨h.os, h.tape, h.output, by rw [setRow_size]; exact h.size, fun k hk h' => by rw [setRow_other _ _ _ _ (by omega)]; exact h.block k hk h'⟩

section
variable {P : Program}
theorem wp_load_row {op : Oper} {a : Act} {w : World} {K : Act → World → Prop} {Q : Exit → Act → World → Prop} (ty : TypeId) (x : Operand) (ho : op.op = .load ty x)
    (b : Nat) (hx : a.eval x = .pointer (some ⟨b, 0, none⟩)) (cs : List Value) (d : TypeDesc) (t : TypeId) (hc : RowIs w b t cs)
    (hu : P.underlying ty = some d) (hd : (match d with | .struct _ | .array _ _ => true | _ => false) = true) (hi : (P.info? ty).map (·.size) = some cs.length)
    (h : K (a.put op.dst (.agg cs.toArray)) w) : op.wp P a w K Q := by
  unfold Oper.wp execOp
  simp only [ho, hx, Instr.loadAt, Instr.sureAddr, Sem.run_bind, Sem.run_pure, Result.andThen_ok, run_loadVar_row w b t ty cs.toArray (0, 0) d hc hu hd (by simpa using hi)]
  exact h
theorem wpList_load_row {ops : Array Oper} {rest : List Oper} {op : Oper} {a : Act} {w : World} {Q : Exit → Act → World → Prop} (hgd : op.guard = none) (ty : TypeId) (x : Operand) (ho : op.op = .load ty x)
    (b : Nat) (hx : a.eval x = .pointer (some ⟨b, 0, none⟩)) (cs : List Value) (d : TypeDesc) (t : TypeId) (hc : RowIs w b t cs)
    (hu : P.underlying ty = some d) (hd : (match d with | .struct _ | .array _ _ => true | _ => false) = true) (hi : (P.info? ty).map (·.size) = some cs.length)
    (h : wpList P ops Q rest (a.put op.dst (.agg cs.toArray)) w) : wpList P ops Q (op :: rest) a w :=
  wpList_plain hgd fun _ hK => wp_load_row ty x ho b hx cs d t hc hu hd hi (hK _ _ h)
theorem wpList_store_row {ops : Array Oper} {rest : List Oper} {op : Oper} {a : Act} {w : World} {Q : Exit → Act → World → Prop} (hgd : op.guard = none) (ty : TypeId) (x y : Operand) (ho : op.op = .store ty x y)
    (b : Nat) (cs : List Value) (hx : a.eval x = .pointer (some ⟨b, 0, none⟩)) (hy : a.eval y = .agg cs.toArray) (t : TypeId) (old : List Value) (hc : RowIs w b t old)
    (hi : (P.info? ty).map (·.size) = some cs.length) (hl : old.length = cs.length) (h1 : ∀ u ∈ cs, u.oneCell' = true)
    (h : wpList P ops Q rest (a.put op.dst undef) (w.setRow b cs.toArray)) : wpList P ops Q (op :: rest) a w :=
  wpList_plain hgd fun _ hK => wp_store_row ty x y ho b cs.toArray hx hy t old.toArray hc (by simpa using hi) (by simpa using hl) (Array.all_eq_true_iff_forall_mem.2 (fun v hv => h1 v (by simpa using hv))) (hK _ _ h)
theorem wpList_alloc_row {ops : Array Oper} {rest : List Oper} {op : Oper} {a : Act} {w : World} {Q : Exit → Act → World → Prop} (hgd : op.guard = none) (ty : TypeId) (ho : op.op = .alloc ty)
    (cs : List Value) (hz : ∀ w, (zeroValue ty).run P w = .ok (.agg cs.toArray) w)
    (h : wpList P ops Q rest (a.put op.dst (.pointer (some ⟨w.heap.size, 0, none⟩))) (w.alloc (.cells cs.toArray ty))) : wpList P ops Q (op :: rest) a w :=
  wpList_plain hgd fun _ hK => by
    unfold Oper.wp execOp
    have := hz w
    simp [ho, Instr.alloc, Instr.box, newVar, newRow, newObj, this, Value.cells]
    exact hK _ _ h
end
end Go.Proofs.YtfemmnhfllbgjaaGreatDoor
/- append of a row onto a row that is owned, whatever slice the row to be appended is (nil, empty, in the midst of a block): at the run, at an operation, at a step of a region that draws. -/
namespace Go.Proofs.YtfemmnhfllbgjaaGreatDoor
open Go.RowKit
set_option maxRecDepth 100000
set_option linter.unusedSimpArgs false
set_option linter.unusedVariables false

section
variable (w : World)
theorem run_app (t ty e : TypeId) (z : Value) (size bytes : Nat) (ht : Tryz.prog.underlying t = some (.slice e)) (hinf : ((Tryz.prog.info? e).map fun i => (i.zero, i.size, i.bytes)) = some (some z, size, bytes)) (hzs : z.cells.size = size) (hsz : 0 < size)
    (base : Nat) (v : Value) (n : Nat) (xs : List Value) (hown : w.ownsRow base e size v n xs) (u : Value) (m : Nat) (news : List Value) (hr : Reads w u m size news) (h1 : ∀ u ∈ news, u.oneCell' = true)
    (hnm : n + m ≤ 2097152) (hby : bytes ≤ 1000) (hbase : base ≤ w.heap.size) :
    ∃ v' w', (Builtin.append_ #[t, t] ty #[v, u]).run Tryz.prog w = .ok v' w' ∧ w'.ownsRow base e size v' (n + m) (xs ++ news) ∧ w.grownBy w' v.ownBlock ∧ (v'.ownBlock = v.ownBlock ∨ v'.ownBlock = some w.heap.size) := by
  obtain ⟨i, hi, hz, hs, hb⟩ := info_parts (P := Tryz.prog) (e := e) (z := z) (size := size) (bytes := bytes) hinf
  obtain ⟨hl, ad, cap, rfl, h2, h3, h4⟩ := hr
  have hbytes : (n + m) * bytes ≤ 140737488355328 := by
    have := Nat.mul_le_mul hnm hby
    omega
  cases ad with
  | some a =>
    obtain ⟨v', w', hrun, ho, hg, _, hat⟩ := run_append_own_at (P := Tryz.prog) w base t ty e i z size bytes ht hi hz hs hb hzs hsz v n xs hown a m cap news hl (fun j x hj => by
      have hm : 0 < m := by
        rcases Nat.eq_zero_or_pos m with h0 | h0
        · subst h0; simp at hl; subst hl; simp at hj
        · exact h0
      obtain ⟨b, o, e1, _, hc⟩ := h4 hm
      simp only [Option.some.injEq] at e1
      subst e1
      have := hc j x hj
      have ha : (⟨b, o, none⟩ : Addr).add j = ⟨b, o + j, none⟩ := by unfold Addr.add; split <;> simp_all
      rw [ha]; exact this) h1 (by unfold maxLen; omega) hbytes hbase
    exact ⟨v', w', hrun, ho, hg, hat⟩
  | none =>
    have hm : m = 0 := by
      rcases Nat.eq_zero_or_pos m with h0 | h0
      · exact h0
      · obtain ⟨b, o, e1, _⟩ := h4 h0; cases e1
    subst hm
    simp at hl
    subst hl
    obtain ⟨ad0, cap0, rfl, g1, g2⟩ := owns_form hown
    refine ⟨.slice ad0 n cap0, w, ?_, by simpa using hown, gb_refl _ _, .inl rfl⟩
    cases ad0 with
    | none => simp [Builtin.append_, run_underlying ht, sizeOf, typeInfo, hi, Builtin.lenOf, g1, Builtin.firstCells]
    | some a0 => simp [Builtin.append_, run_underlying ht, sizeOf, typeInfo, hi, Builtin.lenOf, g1, Builtin.firstCells, storeCells]

theorem wp_app {o : Oper} {a : Act} {K : Act → World → Prop} {Q : Exit → Act → World → Prop} (s x : Operand) (t : TypeId) (ho : o.op = .call { callee := .builtin .append, args := #[s, x], argTypes := #[t, t] })
    (e : TypeId) (z : Value) (size bytes : Nat) (ht : Tryz.prog.underlying t = some (.slice e)) (hinf : ((Tryz.prog.info? e).map fun i => (i.zero, i.size, i.bytes)) = some (some z, size, bytes)) (hzs : z.cells.size = size) (hsz : 0 < size)
    (base : Nat) (v : Value) (n : Nat) (xs : List Value) (hs : a.eval s = v) (hown : w.ownsRow base e size v n xs) (u : Value) (m : Nat) (news : List Value) (hx : a.eval x = u) (hr : Reads w u m size news) (h1 : ∀ u ∈ news, u.oneCell' = true)
    (hnm : n + m ≤ 2097152) (hby : bytes ≤ 1000) (hbase : base ≤ w.heap.size)
    (h : ∀ ad cap w', w'.ownsRow base e size (.slice ad (n + m) cap) (n + m) (xs ++ news) → w.grownBy w' v.ownBlock → ((Value.slice ad (n + m) cap).ownBlock = v.ownBlock ∨ (Value.slice ad (n + m) cap).ownBlock = some w.heap.size) → K (a.put o.dst (.slice ad (n + m) cap)) w') : o.wp Tryz.prog a w K Q := by
  obtain ⟨v', w', hrun, h2, h3, h4⟩ := run_app w t o.type e z size bytes ht hinf hzs hsz base v n xs hown u m news hr h1 hnm hby hbase
  obtain ⟨ad, cap, rfl, _⟩ := owns_form h2
  unfold Oper.wp execOp
  simp only [ho, resolve, invoke, builtin, Sem.run_bind, Sem.run_pure, Result.andThen_ok, List.map_toArray, List.map_cons, List.map_nil, hs, hx, hrun]
  exact h ad cap w' h2 h3 h4

theorem wpList_app {ops : Array Oper} {rest : List Oper} {o : Oper} {a : Act} {Q : Exit → Act → World → Prop} (hgd : o.guard = none) (s x : Operand) (t : TypeId) (ho : o.op = .call { callee := .builtin .append, args := #[s, x], argTypes := #[t, t] })
    (e : TypeId) (z : Value) (size bytes : Nat) (ht : Tryz.prog.underlying t = some (.slice e)) (hinf : ((Tryz.prog.info? e).map fun i => (i.zero, i.size, i.bytes)) = some (some z, size, bytes)) (hzs : z.cells.size = size) (hsz : 0 < size)
    (base : Nat) (v : Value) (n : Nat) (xs : List Value) (hs : a.eval s = v) (hown : w.ownsRow base e size v n xs) (u : Value) (m : Nat) (news : List Value) (hx : a.eval x = u) (hr : Reads w u m size news) (h1 : ∀ u ∈ news, u.oneCell' = true)
    (hnm : n + m ≤ 2097152) (hby : bytes ≤ 1000) (hbase : base ≤ w.heap.size)
    (h : ∀ ad cap w', w'.ownsRow base e size (.slice ad (n + m) cap) (n + m) (xs ++ news) → w.grownBy w' v.ownBlock → ((Value.slice ad (n + m) cap).ownBlock = v.ownBlock ∨ (Value.slice ad (n + m) cap).ownBlock = some w.heap.size) → wpList Tryz.prog ops Q rest (a.put o.dst (.slice ad (n + m) cap)) w') : wpList Tryz.prog ops Q (o :: rest) a w :=
  wpList_plain hgd fun _ hK => wp_app w s x t ho e z size bytes ht hinf hzs hsz base v n xs hs hown u m news hx hr h1 hnm hby hbase fun ad cap w' h2 h3 h4 => hK _ _ (h ad cap w' h2 h3 h4)

theorem step_app {ops : Array Oper} {o : Oper} {a : Act} {K : Act → World → Prop} {Q : Exit → Act → World → Prop} {E : Prop} (hgd : o.guard = none) (s x : Operand) (t : TypeId) (ho : o.op = .call { callee := .builtin .append, args := #[s, x], argTypes := #[t, t] })
    (e : TypeId) (z : Value) (size bytes : Nat) (ht : Tryz.prog.underlying t = some (.slice e)) (hinf : ((Tryz.prog.info? e).map fun i => (i.zero, i.size, i.bytes)) = some (some z, size, bytes)) (hzs : z.cells.size = size) (hsz : 0 < size)
    (base : Nat) (v : Value) (n : Nat) (xs : List Value) (hs : a.eval s = v) (hown : w.ownsRow base e size v n xs) (u : Value) (m : Nat) (news : List Value) (hx : a.eval x = u) (hr : Reads w u m size news) (h1 : ∀ u ∈ news, u.oneCell' = true)
    (hnm : n + m ≤ 2097152) (hby : bytes ≤ 1000) (hbase : base ≤ w.heap.size)
    (h : ∀ ad cap w', w'.ownsRow base e size (.slice ad (n + m) cap) (n + m) (xs ++ news) → w.grownBy w' v.ownBlock → ((Value.slice ad (n + m) cap).ownBlock = v.ownBlock ∨ (Value.slice ad (n + m) cap).ownBlock = some w.heap.size) → K (a.put o.dst (.slice ad (n + m) cap)) w') :
    if Region.wanted o (yielded ops a.tmps) = true then Oper.wp Tryz.prog o a w K Q else E := by
  have hw : Region.wanted o (yielded ops a.tmps) = true := by simp [Region.wanted, hgd]
  rw [if_pos hw]
  exact wp_app w s x t ho e z size bytes ht hinf hzs hsz base v n xs hs hown u m news hx hr h1 hnm hby hbase h
end
/-- What append(nil, ..) made is new. -/
theorem below_grown {a b : World} (h : a.grownBy b none) : Below a.heap.size a b := ⟨h.os, h.tape, h.output, h.size, fun k hk => h.block k hk (by simp)⟩
end Go.Proofs.YtfemmnhfllbgjaaGreatDoor
/- A text that is drawn: some bytes, no more than asked for; of what was there the cursor alone has moved. -/
namespace Go.Proofs.YtfemmnhfllbgjaaGreatDoor
open Go.RowKit
set_option maxRecDepth 100000
set_option linter.unusedSimpArgs false
set_option linter.unusedVariables false

/-- A byte's value. -/
def ByteVal (v : Value) : Prop := ∃ z : Int, v = .int .u8 z ∧ 0 ≤ z ∧ z ≤ 255

theorem ownsRow_moves {w w' : World} {g base n size : Nat} {e : TypeId} {v : Value} {xs : List Value} (h : w.ownsRow base e size v n xs) (hm : Moves g w w') (hg : g < base) : w'.ownsRow base e size v n xs := by
  obtain ⟨h1, h2⟩ := h
  refine ⟨h1, ?_⟩
  rcases h2 with h2 | ⟨b, cap, cur, e1, e2, e3, e4⟩
  · exact .inl h2
  · refine .inr ⟨b, cap, cur, e1, e2, ?_, e4⟩
    rw [hm.block b (Array.getElem?_eq_some_iff.1 e3).1 (by omega)]
    exact e3

theorem Moves.grown {g : Nat} {w a b : World} {row : Option Nat} (h : Moves g w a) (hg : a.grownBy b row) (hr : ∀ k, row = some k → w.heap.size ≤ k) : Moves g w b :=
  ⟨hg.os.trans h.os, hg.tape.trans h.tape, hg.output.trans h.output, Nat.le_trans h.size hg.size, fun k hk hne => (hg.block k (Nat.lt_of_lt_of_le hk h.size) (fun e => by have := hr k e.symm; omega)).trans (h.block k hk hne)⟩

theorem Cur.grown {w w' : World} {g B : Nat} {row : Option Nat} (h : Cur w g B) (hg : w.grownBy w' row) (hr : ∀ k, row = some k → g < k) : Cur w' g B :=
  h.kept ⟨hg.os, hg.tape, hg.output, hg.size, fun k hk => hg.block k (by have := h.lt; omega) (fun e => by have := hr k e.symm; omega)⟩

theorem bytes_list : ∀ (xs : List Value), (∀ v ∈ xs, ByteVal v) → ∃ l : List UInt8, l.length = xs.length ∧ ∀ j (hj : j < l.length), xs[j]? = some (.int .u8 (l[j].toNat : Int))
  | [], _ => ⟨[], rfl, fun j hj => by simp at hj⟩
  | v :: xs, h => by
    obtain ⟨l, hl, hj⟩ := bytes_list xs (fun u hu => h u (List.mem_cons_of_mem _ hu))
    obtain ⟨z, rfl, z0, z1⟩ := h v List.mem_cons_self
    refine ⟨UInt8.ofNat z.toNat :: l, by simp [hl], fun j hjj => ?_⟩
    cases j with
    | zero =>
      have : ((UInt8.ofNat z.toNat).toNat : Int) = z := by simp [UInt8.toNat_ofNat']; omega
      show some (Value.int .u8 z) = some (Value.int .u8 ((UInt8.ofNat z.toNat).toNat : Int))
      rw [this]
    | succ k =>
      have := hj k (by simpa using hjj)
      simpa using this

theorem row_to_string {W : World} {base n : Nat} {v : Value} {xs : List Value} (hown : W.ownsRow base 5 1 v n xs) (hx : ∀ u ∈ xs, ByteVal u) :
    ∃ s : ByteArray, s.size = n ∧ (convert 22 9 v).run Tryz.prog W = .ok (.string s) W := by
  obtain ⟨h1, h2⟩ := hown
  rcases h2 with ⟨rfl, rfl⟩ | ⟨b, cap, cur, rfl, e2, e3, e4, e5, e6, e7⟩
  · exact ⟨⟨#[]⟩, rfl, by simpa using Lib.run_convert_nil_bytes (P := Tryz.prog) W 22 9 5 0 Tryz.underlying22 Tryz.underlying5 Tryz.underlying9⟩
  · obtain ⟨l, hl, hj⟩ := bytes_list xs hx
    have hn : l.length = n := by omega
    refine ⟨⟨l.toArray⟩, by simp [ByteArray.size, hn], ?_⟩
    have := run_convert_bytes_back (P := Tryz.prog) W 22 9 5 ⟨b, 0, none⟩ cap l Tryz.underlying22 Tryz.underlying5 Tryz.underlying9 (fun j hjl => by
      have h5 := hj j hjl
      have h6 : W.cell? ((⟨b, 0, none⟩ : Addr).add j) = cur[j]? := by by_cases hj0 : j = 0 <;> simp [Addr.add, World.cell?, e3, hj0]
      rw [h6, ← Array.getElem?_toList, ← h5, ← e7, List.getElem?_take_of_lt (by omega)])
    rw [hn] at this
    exact this

theorem ownsRow_set {W : World} {base b n cap t : Nat} {e : TypeId} {xs : List Value} (h : W.ownsRow base e 1 (.slice (some ⟨b, 0, none⟩) n cap) n xs) (u : Value) :
    (W.setCell ⟨b, t, none⟩ u).ownsRow base e 1 (.slice (some ⟨b, 0, none⟩) n cap) n (xs.set t u) := by
  obtain ⟨h1, h2⟩ := h
  refine ⟨by simpa using h1, ?_⟩
  rcases h2 with ⟨h2, _⟩ | ⟨b', cap', cur, e1, e2, e3, e4, e5, e6, e7⟩
  · cases h2
  · simp only [Value.slice.injEq, Option.some.injEq, Addr.mk.injEq, and_true, true_and] at e1
    obtain ⟨rfl, rfl⟩ := e1
    refine .inr ⟨b, cap, cur.setIfInBounds t u, rfl, e2, Joins.block_setCell e3 u, e4, e5, by simpa using e6, ?_⟩
    rw [Array.toList_setIfInBounds, List.take_set, e7]

theorem ownsRow_at {W : World} {base b n cap t : Nat} {e : TypeId} {xs : List Value} (h : W.ownsRow base e 1 (.slice (some ⟨b, 0, none⟩) n cap) n xs) (ht : t < n) :
    (∃ u, W.cell? ⟨b, t, none⟩ = some u) ∧ W.frozen? ⟨b, t, none⟩ = false ∧ base ≤ b ∧ n ≤ cap ∧ b < W.heap.size := by
  obtain ⟨h1, h2⟩ := h
  rcases h2 with ⟨h2, _⟩ | ⟨b', cap', cur, e1, e2, e3, e4, e5, e6, e7⟩
  · cases h2
  · simp only [Value.slice.injEq, Option.some.injEq, Addr.mk.injEq, and_true, true_and] at e1
    obtain ⟨rfl, rfl⟩ := e1
    have hlt : t < cur.size := by omega
    exact ⟨⟨cur[t], by rw [Joins.cell_of_block e3, Array.getElem?_eq_getElem hlt]⟩, Joins.unfrozen_of_block e3 t, e2, e4, (Array.getElem?_eq_some_iff.1 e3).1⟩

theorem mem_set_byte {xs : List Value} (hx : ∀ u ∈ xs, ByteVal u) (t : Nat) (u : Value) (hu : ByteVal u) : ∀ v ∈ xs.set t u, ByteVal v := by
  intro v hv
  rcases List.mem_or_eq_of_mem_set hv with h | h
  · exact hx v h
  · rw [h]; exact hu

theorem mem_append_byte {xs : List Value} (hx : ∀ u ∈ xs, ByteVal u) (u : Value) (hu : ByteVal u) : ∀ v ∈ xs ++ [u], ByteVal v := by
  intro v hv
  rcases List.mem_append.1 hv with h | h
  · exact hx v h
  · simp at h; rw [h]; exact hu

end Go.Proofs.YtfemmnhfllbgjaaGreatDoor
/- The bytes that a property law is given: what their slice is, and when there are too many. For every chapter's property laws. -/
namespace Go.Proofs.YtfemmnhfllbgjaaGreatDoor
open Go.RowKit
set_option maxRecDepth 100000
set_option linter.unusedVariables false
set_option linter.unusedSimpArgs false

theorem big1 (a : Option Addr) (len cap : Nat) (w : World) : Calls Tryz.prog 5 #[.slice a len cap] w fun x w' => x = .returned (.bool (decide ((4096 : Int) < len))) ∧ w' = w := by
  go_enter Tryz.func5, Tryz.ntmps5
  go_wp2
  go_ret
  exact ⟨rfl, rfl⟩
theorem CodeAt.wider {w : World} {a : Option Addr} {len B B' : Nat} (h : CodeAt w a len B) (hb : B ≤ B') : CodeAt w a len B' := fun j hj => by
  obtain ⟨b, o, z, h1, h2, h3⟩ := h j hj
  exact ⟨b, o, z, h1, by omega, h3⟩
theorem CodeAt.behind {w w' : World} {a : Option Addr} {len : Nat} (h : CodeAt w a len w.heap.size) (hb : Below w.heap.size w w') : CodeAt w' a len w'.heap.size := (h.kept hb).wider hb.size

open Go.ChangeShapes Go.WideShapes Go.ChangeAt Go.Joins
open Go.ChangeMaps (open_string shut_string)

theorem open_code {H : Type} {enc : TypeId × Value → H} {W : World} {a : Option Addr} {len cap : Nat} {d : DataW H} {p : List MemPlace}
    (h : DataW.Trod enc Tryz.prog W 0 (fun _ => true) true 22 (.slice a len cap) d p) : len ≤ maxLen ∧ CodeAt W a len W.heap.size := by
  obtain ⟨fuel, hf⟩ := h
  rcases open_ints Tryz.underlying22 Tryz.underlying5 (by kernel_rfl) hf with ⟨hcs, _⟩ | ⟨x, l, c, zs, hcs, _, hl, hm, hz, _, hcell, hwz⟩
  · simp [Value.cells] at hcs
    obtain ⟨rfl, rfl, rfl⟩ := hcs
    exact ⟨Nat.zero_le _, fun j hj => by omega⟩
  · simp [Value.cells] at hcs
    obtain ⟨rfl, rfl, rfl⟩ := hcs
    have hz' : zs.length = cap := by simpa using hz
    refine ⟨by omega, fun j hj => ?_⟩
    obtain ⟨b, o, sp⟩ := x
    have hc0 := hcell 0 (by omega)
    have hsp : sp = none := by simpa [Addr.add] using World.cell?_spot hc0
    subst hsp
    have hc := hcell j (by omega)
    have hr := range_u8 hwz j
    have hc' : W.cell? ⟨b, o + j, none⟩ = some (.int .u8 (zs.getD j 0)) := by
      by_cases h0 : j = 0
      · subst h0; simpa [Addr.add] using hc
      · simpa [Addr.add, h0] using hc
    refine ⟨b, o, zs.getD j 0, rfl, World.block_lt_of_cell? W _ hc', ?_, ?_, hc'⟩
    · rw [List.getD_eq_getElem?_getD]; exact hr.1
    · rw [List.getD_eq_getElem?_getD]; exact hr.2
end Go.Proofs.YtfemmnhfllbgjaaGreatDoor
