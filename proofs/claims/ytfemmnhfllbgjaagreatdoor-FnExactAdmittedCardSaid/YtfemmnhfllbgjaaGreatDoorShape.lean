/- Data in memory, whatever its make: what cells read as, what of it is owned and in which blocks, rows of it; and what becomes of both when other blocks turn. -/
import Derived.Test.YtfemmnhfllbgjaaGreatDoorHeapRows
namespace Go.Proofs.YtfemmnhfllbgjaaGreatDoor
open Go.RowKit
set_option maxRecDepth 100000
set_option linter.unusedSimpArgs false
set_option linter.unusedVariables false

/-- A make of data: how many cells it takes, its type, what its cells read as, and what they own. -/
structure Shp (D : Type) where
  size : Nat
  ty : TypeId
  rd : World → List Value → D → Prop
  own : World → List Value → D → List Nat → Prop
  pos : 0 < size
  rd_len : ∀ {w : World} {cs : List Value} {d : D}, rd w cs d → cs.length = size
  rd_one : ∀ {w : World} {cs : List Value} {d : D}, rd w cs d → ∀ u ∈ cs, u.oneCell' = true
  rd_new : ∀ {w w' : World} {cs : List Value} {d : D}, rd w cs d → Below w.heap.size w w' → rd w' cs d
  own_rd : ∀ {w : World} {cs : List Value} {d : D} {bs : List Nat}, own w cs d bs → rd w cs d
  own_keep : ∀ {w w' : World} {cs : List Value} {d : D} {bs : List Nat}, own w cs d bs → w.heap.size ≤ w'.heap.size → (∀ b ∈ bs, w'.heap[b]? = w.heap[b]?) → own w' cs d bs
  own_lt : ∀ {w : World} {cs : List Value} {d : D} {bs : List Nat}, own w cs d bs → ∀ b ∈ bs, b < w.heap.size

theorem flat_len {α : Type} (f : α → List Value) (s : Nat) (L : List α) (hf : ∀ x ∈ L, (f x).length = s) : (L.flatMap f).length = L.length * s := by
  induction L with
  | nil => simp
  | cons x L ih => simp only [List.flatMap_cons, List.length_append, List.length_cons, hf x (by simp), ih (fun y hy => hf y (by simp [hy])), Nat.succ_mul]; omega
theorem flat_at {α : Type} (f : α → List Value) (s : Nat) (L : List α) (hf : ∀ x ∈ L, (f x).length = s) (i : Nat) (hi : i < L.length) (r : Nat) (hr : r < s) : (L.flatMap f)[i * s + r]? = (f L[i])[r]? := by
  induction L generalizing i with
  | nil => exact absurd hi (Nat.not_lt_zero _)
  | cons x L ih =>
    have hx := hf x (by simp)
    cases i with
    | zero => simp only [List.flatMap_cons, Nat.zero_mul, Nat.zero_add]; rw [List.getElem?_append_left (by rw [hx]; omega)]; rfl
    | succ i =>
      simp only [List.flatMap_cons]
      rw [List.getElem?_append_right (by rw [hx, Nat.succ_mul]; omega), hx, show (i + 1) * s + r - s = i * s + r by rw [Nat.succ_mul]; omega]
      simpa using ih (fun y hy => hf y (by simp [hy])) i (by simpa using hi)
theorem flat_put {α : Type} (f : α → List Value) (s : Nat) (L : List α) (hf : ∀ x ∈ L, (f x).length = s) (i : Nat) (hi : i < L.length) (r : Nat) (hr : r < s) (u : Value) (y : α) (hy : f y = (f L[i]).set r u) : (L.flatMap f).set (i * s + r) u = (L.set i y).flatMap f := by
  induction L generalizing i with
  | nil => exact absurd hi (Nat.not_lt_zero _)
  | cons x L ih =>
    have hx := hf x (by simp)
    cases i with
    | zero =>
      simp only [List.flatMap_cons, Nat.zero_mul, Nat.zero_add, List.set_cons_zero]
      rw [List.set_append_left _ _ (by rw [hx]; omega), hy]; rfl
    | succ i =>
      simp only [List.flatMap_cons, List.set_cons_succ]
      rw [List.set_append_right _ _ (by rw [hx, Nat.succ_mul]; omega), hx, show (i + 1) * s + r - s = i * s + r by rw [Nat.succ_mul]; omega]
      rw [ih (fun z hz => hf z (by simp [hz])) i (by simpa using hi) (by simpa using hy)]

section
variable {D : Type} (E : Shp D)
/-- The slice v reads as the list L. -/
def RdR (w : World) (v : Value) (L : List D) : Prop :=
  ∃ ts : List (List Value × D), L = ts.map (·.2) ∧ Reads w v ts.length E.size (ts.flatMap (·.1)) ∧ ∀ t ∈ ts, E.rd w t.1 t.2
/-- The slice v reads as L, its row and all behind it are owned and lie in blocks bs. -/
def OwR (w : World) (v : Value) (L : List D) (bs : List Nat) : Prop :=
  ∃ ts : List (List Value × D × List Nat), L = ts.map (·.2.1) ∧ w.ownsRow 0 E.ty E.size v ts.length (ts.flatMap (·.1)) ∧ (∀ t ∈ ts, E.own w t.1 t.2.1 t.2.2) ∧ bs = v.ownBlock.toList ++ ts.flatMap (·.2.2)
/-- The same, all in blocks lo .. hi - 1, no two lists in one block. -/
def OwX (w : World) (lo hi : Nat) (v : Value) (L : List D) : Prop := ∃ bs, OwR E w v L bs ∧ bs.Nodup ∧ ∀ b ∈ bs, lo ≤ b ∧ b < hi
/-- One datum, owned, all behind it in blocks lo .. hi - 1. -/
def OwE (w : World) (lo hi : Nat) (cs : List Value) (d : D) : Prop := ∃ bs, E.own w cs d bs ∧ bs.Nodup ∧ ∀ b ∈ bs, lo ≤ b ∧ b < hi
end
section
variable {D : Type} {E : Shp D}
theorem RdR.form {w : World} {v : Value} {L : List D} (h : RdR E w v L) : ∃ ad cap, v = .slice ad L.length cap ∧ L.length ≤ cap ∧ cap ≤ 9223372036854775807 := by
  obtain ⟨ts, rfl, hr, _⟩ := h
  obtain ⟨_, ad, cap, rfl, h1, h2, _⟩ := hr
  exact ⟨ad, cap, by simp, by simpa using h1, by unfold maxLen at h2; omega⟩
theorem RdR.new {w w' : World} {v : Value} {L : List D} (h : RdR E w v L) (hb : Below w.heap.size w w') : RdR E w' v L := by
  obtain ⟨ts, rfl, hr, hE⟩ := h
  exact ⟨ts, rfl, hr.new hb, fun t ht => E.rd_new (hE t ht) hb⟩
theorem RdR.at {w : World} {ad : Option Addr} {n cap : Nat} {L : List D} (h : RdR E w (.slice ad n cap) L) (k : Nat) (hk : k < L.length) :
    ∃ b o cs, ad = some ⟨b, o, none⟩ ∧ b < w.heap.size ∧ E.rd w cs L[k] ∧ ∀ r u, cs[r]? = some u → w.cell? ⟨b, o + k * E.size + r, none⟩ = some u := by
  obtain ⟨ts, rfl, hr, hE⟩ := h
  have hk' : k < ts.length := by simpa using hk
  obtain ⟨hl, ad', cap', he, h1, h2, h3⟩ := hr
  obtain ⟨b, o, rfl, hb, hc⟩ := h3 (by omega)
  simp only [Value.slice.injEq] at he
  have hm := hE _ (List.getElem_mem hk')
  refine ⟨b, o, (ts[k]).1, he.1, hb, by simpa using hm, fun r u hu => (Nat.add_assoc o (k * E.size) r).symm ▸ hc _ _ ?_⟩
  have hrs : r < E.size := by
    rw [← E.rd_len hm]
    exact (List.getElem?_eq_some_iff.1 hu).1
  rw [flat_at (fun t : List Value × D => t.1) E.size ts (fun t ht => E.rd_len (hE t ht)) k hk' r hrs]
  exact hu
theorem OwR.rd {w : World} {v : Value} {L : List D} {bs : List Nat} (h : OwR E w v L bs) : RdR E w v L := by
  obtain ⟨ts, rfl, ho, hE, rfl⟩ := h
  refine ⟨ts.map fun t => (t.1, t.2.1), by simp [Function.comp_def], ?_, fun t ht => ?_⟩
  · have := reads_of_owns ho
    simpa [List.flatMap_map] using this
  · obtain ⟨t', ht', rfl⟩ := List.mem_map.1 ht
    exact E.own_rd (hE t' ht')
theorem OwR.lt {w : World} {v : Value} {L : List D} {bs : List Nat} (h : OwR E w v L bs) : ∀ b ∈ bs, b < w.heap.size := by
  obtain ⟨ts, rfl, ho, hE, rfl⟩ := h
  intro b hb
  rcases List.mem_append.1 hb with hb | hb
  · cases hv : v.ownBlock with
    | none => rw [hv] at hb; cases hb
    | some g => rw [hv] at hb; simp at hb; subst hb; exact (ho.lt b hv).2
  · obtain ⟨t, ht, hbt⟩ := List.mem_flatMap.1 hb
    exact E.own_lt (hE t ht) b hbt
theorem OwR.keep {w w' : World} {v : Value} {L : List D} {bs : List Nat} (h : OwR E w v L bs) (hs : w.heap.size ≤ w'.heap.size) (hk : ∀ b ∈ bs, w'.heap[b]? = w.heap[b]?) : OwR E w' v L bs := by
  obtain ⟨ts, rfl, ho, hE, rfl⟩ := h
  refine ⟨ts, rfl, owns_kept ho fun g hg _ => hk g (by simp [hg]), fun t ht => E.own_keep (hE t ht) hs fun b hb => hk b ?_, rfl⟩
  exact List.mem_append_right _ (List.mem_flatMap.2 ⟨t, ht, hb⟩)
theorem OwX.rd {w : World} {lo hi : Nat} {v : Value} {L : List D} (h : OwX E w lo hi v L) : RdR E w v L := by obtain ⟨bs, h, _⟩ := h; exact h.rd
theorem OwX.new {w w' : World} {lo hi : Nat} {v : Value} {L : List D} (h : OwX E w lo hi v L) (hb : Below w.heap.size w w') : OwX E w' lo hi v L := by
  obtain ⟨bs, h1, h2, h3⟩ := h
  exact ⟨bs, h1.keep hb.size fun b hb' => hb.block b (h1.lt b hb'), h2, h3⟩
theorem OwX.turn {w w' : World} {lo hi lo' hi' : Nat} {v : Value} {L : List D} (h : OwX E w lo hi v L) (ht : Turn lo' hi' w w') (hd : hi ≤ lo' ∨ hi' ≤ lo) : OwX E w' lo hi v L := by
  obtain ⟨bs, h1, h2, h3⟩ := h
  exact ⟨bs, h1.keep ht.size fun b hb' => ht.block b (h1.lt b hb') (by have := h3 b hb'; omega), h2, h3⟩
theorem OwX.far {w : World} {lo hi : Nat} {v : Value} {L : List D} (h : OwX E w lo hi v L) (p : Addr) (u : Value) (hp : p.block < lo ∨ hi ≤ p.block) : OwX E (w.setCell p u) lo hi v L := by
  obtain ⟨bs, h1, h2, h3⟩ := h
  exact ⟨bs, h1.keep (by simp) fun b hb' => Below.heap_setCell w p u b (fun e => by have := h3 b hb'; omega), h2, h3⟩
theorem OwX.wide {w : World} {lo hi lo' hi' : Nat} {v : Value} {L : List D} (h : OwX E w lo hi v L) (h1 : lo' ≤ lo) (h2 : hi ≤ hi') : OwX E w lo' hi' v L := by
  obtain ⟨bs, a, b, c⟩ := h
  exact ⟨bs, a, b, fun x hx => by have := c x hx; omega⟩
/-- What is owned lies in memory: its upper end may be told so. -/
theorem OwX.top {w : World} {lo hi : Nat} {v : Value} {L : List D} (h : OwX E w lo hi v L) : OwX E w lo w.heap.size v L := by
  obtain ⟨bs, a, b, c⟩ := h
  exact ⟨bs, a, b, fun x hx => ⟨(c x hx).1, a.lt x hx⟩⟩
theorem OwX.form {w : World} {lo hi : Nat} {v : Value} {L : List D} (h : OwX E w lo hi v L) : ∃ ad cap, v = .slice ad L.length cap ∧ L.length ≤ cap ∧ cap ≤ 9223372036854775807 := h.rd.form
theorem OwX.own {w : World} {lo hi : Nat} {v : Value} {L : List D} (h : OwX E w lo hi v L) : ∀ q, v.ownBlock = some q → lo ≤ q ∧ q < hi := by
  obtain ⟨bs, ⟨ts, rfl, ho, hE, rfl⟩, b, c⟩ := h
  intro q hq
  exact c q (by simp [hq])
theorem OwX.ge {w : World} {lo hi b : Nat} {v : Value} {L : List D} (h : OwX E w lo hi v L) (hb : b < lo) : v.ownBlock ≠ some b := fun hq => by have := (h.own b hq).1; omega
theorem OwE.new {w w' : World} {lo hi : Nat} {cs : List Value} {d : D} (h : OwE E w lo hi cs d) (hb : Below w.heap.size w w') : OwE E w' lo hi cs d := by
  obtain ⟨bs, h1, h2, h3⟩ := h
  exact ⟨bs, E.own_keep h1 hb.size fun b hb' => hb.block b (E.own_lt h1 b hb'), h2, h3⟩
theorem OwE.turn {w w' : World} {lo hi lo' hi' : Nat} {cs : List Value} {d : D} (h : OwE E w lo hi cs d) (ht : Turn lo' hi' w w') (hd : hi ≤ lo' ∨ hi' ≤ lo) : OwE E w' lo hi cs d := by
  obtain ⟨bs, h1, h2, h3⟩ := h
  exact ⟨bs, E.own_keep h1 ht.size fun b hb' => ht.block b (E.own_lt h1 b hb') (by have := h3 b hb'; omega), h2, h3⟩
theorem OwE.wide {w : World} {lo hi lo' hi' : Nat} {cs : List Value} {d : D} (h : OwE E w lo hi cs d) (h1 : lo' ≤ lo) (h2 : hi ≤ hi') : OwE E w lo' hi' cs d := by
  obtain ⟨bs, a, b, c⟩ := h
  exact ⟨bs, a, b, fun x hx => by have := c x hx; omega⟩
theorem OwE.rd {w : World} {lo hi : Nat} {cs : List Value} {d : D} (h : OwE E w lo hi cs d) : E.rd w cs d := by obtain ⟨bs, a, _⟩ := h; exact E.own_rd a

theorem nodup_left {a b : List Nat} (h : (a ++ b).Nodup) : a.Nodup := (List.nodup_append.1 h).1
theorem nodup_right {a b : List Nat} (h : (a ++ b).Nodup) : b.Nodup := (List.nodup_append.1 h).2.1
theorem nodup_apart {a b : List Nat} (h : (a ++ b).Nodup) : ∀ x ∈ a, x ∉ b := fun x hx hb => (List.nodup_append.1 h).2.2 x hx x hb rfl
theorem nodup_mk {a b : List Nat} (h1 : a.Nodup) (h2 : b.Nodup) (h3 : ∀ x ∈ a, x ∉ b) : (a ++ b).Nodup := List.nodup_append.2 ⟨h1, h2, fun x hx y hy e => h3 x hx (e ▸ hy)⟩
theorem opt_nodup (o : Option Nat) : o.toList.Nodup := by cases o <;> simp

/-- An empty row. -/
theorem owX_nil (w : World) (lo hi : Nat) : OwX E w lo hi (.slice none 0 0) [] := ⟨[], ⟨[], rfl, World.ownsRow_nil w 0 E.ty E.size, fun t ht => by simp at ht, by simp [Value.ownBlock]⟩, by simp, fun b hb => by simp at hb⟩
theorem owX_empty (w : World) (hi : Nat) (hhi : w.heap.size < hi) : OwX E (w.alloc (.cells #[] E.ty)) w.heap.size hi (.slice (some ⟨w.heap.size, 0, none⟩) 0 0) [] :=
  ⟨[w.heap.size], ⟨[], rfl, World.ownsRow_made w #[] 0 (Nat.zero_le _) (Nat.zero_le _) (by simp), fun t ht => by simp at ht, by simp [Value.ownBlock]⟩, by simp, fun b hb => by simp at hb; omega⟩
/-- A row with one more: what append leaves. -/
theorem OwX.app {w w' : World} {lo mid hi : Nat} {v v' : Value} {L : List D} {cs : List Value} {d : D} {ts : List (List Value × D × List Nat)} (hL : L = ts.map (·.2.1)) (ho : w.ownsRow 0 E.ty E.size v ts.length (ts.flatMap (·.1))) (hE : ∀ t ∈ ts, E.own w t.1 t.2.1 t.2.2)
    (hn : (v.ownBlock.toList ++ ts.flatMap (·.2.2)).Nodup) (hb : ∀ b ∈ v.ownBlock.toList ++ ts.flatMap (·.2.2), lo ≤ b ∧ b < mid) (hmid : mid ≤ w.heap.size) (hlo : lo ≤ w.heap.size) (hd : OwE E w mid hi cs d) (hlm : lo ≤ mid)
    (ho' : w'.ownsRow 0 E.ty E.size v' (ts.length + 1) (ts.flatMap (·.1) ++ cs)) (hg : w.grownBy w' v.ownBlock) (hv' : v'.ownBlock = v.ownBlock ∨ v'.ownBlock = some w.heap.size) : OwX E w' lo w'.heap.size v' (L ++ [d]) := by
  obtain ⟨b2, hd1, hd2, hd3⟩ := hd
  have hsub : ∀ x ∈ ts.flatMap (·.2.2), x < mid ∧ lo ≤ x := fun x hx => by have := hb x (List.mem_append_right _ hx); omega
  have hkeep : ∀ x, x < w.heap.size → (∀ g, v.ownBlock = some g → x ≠ g) → w'.heap[x]? = w.heap[x]? := fun x hx hne => hg.block x hx (fun e => by
    cases hv : v.ownBlock with
    | none => rw [hv] at e; simp at e
    | some g => rw [hv] at e; simp at e; exact hne g hv e)
  have hap := nodup_apart hn
  have hlt2 := E.own_lt hd1
  have hvg : ∀ g, v.ownBlock = some g → g < mid ∧ lo ≤ g := fun g hg => by have := hb g (by simp [hg]); omega
  refine ⟨v'.ownBlock.toList ++ (ts.flatMap (·.2.2) ++ b2), ⟨ts ++ [(cs, d, b2)], by simp [hL], by simpa using ho', fun t ht => ?_, by simp⟩, ?_, ?_⟩
  · rcases List.mem_append.1 ht with ht | ht
    · refine E.own_keep (hE t ht) hg.size fun x hx => ?_
      have hx' : x ∈ ts.flatMap (·.2.2) := List.mem_flatMap.2 ⟨t, ht, hx⟩
      exact hkeep x (E.own_lt (hE t ht) x hx) fun g hgv e => hap g (by simp [hgv]) (e ▸ hx')
    · simp at ht
      subst ht
      refine E.own_keep hd1 hg.size fun x hx => hkeep x (hlt2 x hx) fun g hgv e => ?_
      have := hvg g hgv
      have := hd3 x hx
      omega
  · refine nodup_mk (opt_nodup _) (nodup_mk (nodup_right hn) hd2 fun x hx hx2 => ?_) fun x hx hx2 => ?_
    · have := hsub x hx; have := hd3 x hx2; omega
    · have hxv : v'.ownBlock = some x := by cases hv : v'.ownBlock <;> simp [hv] at hx ⊢; exact hx.symm
      rcases hv' with e | e
      · have hxo := e ▸ hxv
        rcases List.mem_append.1 hx2 with h | h
        · exact hap x (by simp [hxo]) h
        · have := hvg x hxo; have := hd3 x h; omega
      · have : x = w.heap.size := by rw [hxv] at e; exact Option.some.inj e
        rcases List.mem_append.1 hx2 with h | h
        · have := (hsub x h).1; omega
        · have := hlt2 x h; omega
  · intro x hx
    have hs := hg.size
    rcases List.mem_append.1 hx with hx | hx
    · have hxv : v'.ownBlock = some x := by cases hv : v'.ownBlock <;> simp [hv] at hx ⊢; exact hx.symm
      have h2 := (ho'.lt x hxv).2
      rcases hv' with e | e
      · have := hvg x (e ▸ hxv); omega
      · have : x = w.heap.size := by rw [hxv] at e; exact Option.some.inj e
        omega
    · rcases List.mem_append.1 hx with h | h
      · have := hsub x h; omega
      · have := hd3 x h; have := hlt2 x h; omega
theorem mem_of_getElem {α : Type} {L : List α} {k : Nat} (h : k < L.length) : L[k] ∈ L := List.getElem_mem h
theorem flat_same {α β : Type} (f : α → List β) (L : List α) (k : Nat) (hk : k < L.length) (y : α) (hy : f y = f L[k]) : (L.set k y).flatMap f = L.flatMap f := by
  induction L generalizing k with
  | nil => rfl
  | cons x L ih =>
    cases k with
    | zero => simp at hy; simp [hy]
    | succ k => simp only [List.set_cons_succ, List.flatMap_cons]; rw [ih k (by simpa using hk) (by simpa using hy)]
end
/-- Cells written one behind the other, from o on. -/
def setsFrom (w : World) (g o : Nat) : List Value → World
  | [] => w
  | c :: cs => setsFrom (w.setCell ⟨g, o, none⟩ c) g (o + 1) cs
theorem setsFrom_size (g : Nat) : ∀ (cs : List Value) (w : World) (o : Nat), (setsFrom w g o cs).heap.size = w.heap.size
  | [], w, o => rfl
  | c :: cs, w, o => by simp only [setsFrom]; rw [setsFrom_size g cs]; simp
theorem setsFrom_other (g : Nat) : ∀ (cs : List Value) (w : World) (o k : Nat), k ≠ g → (setsFrom w g o cs).heap[k]? = w.heap[k]?
  | [], w, o, k, h => rfl
  | c :: cs, w, o, k, h => by simp only [setsFrom]; rw [setsFrom_other g cs _ _ k h]; exact Below.heap_setCell w _ c k h
theorem setsFrom_below {B : Nat} {a : World} (g : Nat) (hg : B ≤ g) : ∀ (cs : List Value) (w : World) (o : Nat), Below B a w → Below B a (setsFrom w g o cs)
  | [], w, o, h => h
  | c :: cs, w, o, h => by simp only [setsFrom]; exact setsFrom_below g hg cs _ _ (h.setCell (by simpa using hg) c)
theorem set_at {α : Type} (xs ys : List α) (u : α) : (xs ++ ys).set xs.length u = xs ++ ys.set 0 u := by
  rw [List.set_append_right _ _ (Nat.le_refl _), Nat.sub_self]
theorem owns_sets {base : Nat} {e : TypeId} {size : Nat} {v : Value} {n g : Nat} (hg : v.ownBlock = some g) : ∀ (cs : List Value) (w : World) (A B C : List Value), w.ownsRow base e size v n (A ++ B ++ C) → B.length = cs.length → (setsFrom w g A.length cs).ownsRow base e size v n (A ++ cs ++ C)
  | [], w, A, B, C, h, hl => by
    have : B = [] := List.length_eq_zero_iff.1 hl
    subst this
    exact h
  | c :: cs, w, A, [], C, h, hl => by simp at hl
  | c :: cs, w, A, b :: B, C, h, hl => by
    simp only [setsFrom]
    have h1 := owns_set h hg A.length c
    rw [List.append_assoc, set_at] at h1
    simp only [List.cons_append, List.set_cons_zero] at h1
    have h2 := owns_sets hg cs (w.setCell ⟨g, A.length, none⟩ c) (A ++ [c]) B C (by simpa using h1) (by simpa using hl)
    simpa using h2
theorem flat_split {α : Type} (f : α → List Value) (L : List α) (k : Nat) (hk : k < L.length) : L.flatMap f = (L.take k).flatMap f ++ f L[k] ++ (L.drop (k + 1)).flatMap f := by
  have h : L.take k ++ L[k] :: L.drop (k + 1) = L := by rw [← List.drop_eq_getElem_cons hk, List.take_append_drop]
  have h2 : (L.take k ++ L[k] :: L.drop (k + 1)).flatMap f = (L.take k).flatMap f ++ f L[k] ++ (L.drop (k + 1)).flatMap f := by rw [List.flatMap_append, List.flatMap_cons, List.append_assoc]
  rw [h] at h2
  exact h2
section
variable {D : Type} {E : Shp D}
/-- One element of a row that is owned: where it lies, what its cells are, and the row behind a change of it. -/
theorem OwR.put {w : World} {v : Value} {L : List D} {bs : List Nat} (h : OwR E w v L bs) (hn : bs.Nodup) (k : Nat) (hk : k < L.length) :
    ∃ g cap cs b, v = .slice (some ⟨g, 0, none⟩) L.length cap ∧ g < w.heap.size ∧ g ∈ bs ∧ g ∉ b ∧ (∀ x ∈ b, x ∈ bs) ∧ b.Nodup ∧ E.own w cs L[k] b ∧ (∀ r u, cs[r]? = some u → w.cell? ⟨g, k * E.size + r, none⟩ = some u) ∧ (∀ j, w.frozen? ⟨g, j, none⟩ = false) ∧
      (∀ r u d', r < E.size → E.own w (cs.set r u) d' b → OwR E (w.setCell ⟨g, k * E.size + r, none⟩ u) v (L.set k d') bs) ∧
      (∀ w' d', E.own w' cs d' b → w.heap.size ≤ w'.heap.size → (∀ x ∈ bs, x ∉ b → w'.heap[x]? = w.heap[x]?) → OwR E w' v (L.set k d') bs) ∧
      (∀ A B C cs' d', cs = A ++ B ++ C → B.length = cs'.length → E.own w (A ++ cs' ++ C) d' b → OwR E (setsFrom w g (k * E.size + A.length) cs') v (L.set k d') bs) := by
  obtain ⟨ts, rfl, ho, hE, rfl⟩ := h
  have hk' : k < ts.length := by simpa using hk
  have hm := List.getElem_mem hk'
  have hlen : ∀ t ∈ ts, t.1.length = E.size := fun t ht => E.rd_len (E.own_rd (hE t ht))
  obtain ⟨g, cap, rfl, hg, hb0, hgl, h1, h2, hc, hf⟩ := owns_open ho (by omega)
  have hap := nodup_apart hn
  have hgb : g ∈ (Value.slice (some ⟨g, 0, none⟩) ts.length cap).ownBlock.toList := by rw [hg]; simp
  have hsub : ∀ x ∈ ts[k].2.2, x ∈ ts.flatMap (·.2.2) := fun x hx => List.mem_flatMap.2 ⟨_, hm, hx⟩
  have hgn : g ∉ ts[k].2.2 := fun hx => hap g hgb (hsub g hx)
  have hbk : ts[k].2.2.Nodup := by
    have : (ts.flatMap (·.2.2)).Nodup := nodup_right hn
    rw [List.flatMap_def] at this
    exact (List.pairwise_flatten.1 this).1 _ (List.mem_map.2 ⟨_, hm, rfl⟩)
  have hoth : ∀ t ∈ ts, g ∉ t.2.2 := fun t ht hx => hap g hgb (List.mem_flatMap.2 ⟨t, ht, hx⟩)
  refine ⟨g, cap, ts[k].1, ts[k].2.2, by simp, hgl, List.mem_append_left _ hgb, hgn, fun x hx => List.mem_append_right _ (hsub x hx), hbk, by simpa using hE _ hm, fun r u hu => hc _ _ ?_, hf, fun r u d' hr hown => ?_, fun w' d' hown hs hkeep => ?_, fun A B C cs' d' hABC hBl hown => ?_⟩
  · have hrs : r < E.size := by rw [← hlen _ hm]; exact (List.getElem?_eq_some_iff.1 hu).1
    rw [flat_at (fun t : List Value × D × List Nat => t.1) E.size ts hlen k hk' r hrs]
    exact hu
  · have hkeepo : ∀ t ∈ ts, E.own (w.setCell ⟨g, k * E.size + r, none⟩ u) t.1 t.2.1 t.2.2 := fun t ht => E.own_keep (hE t ht) (by simp) fun x hx => Below.heap_setCell w _ u x (fun e => hoth t ht (by have e' : x = g := e; rw [← e']; exact hx))
    have hnew : E.own (w.setCell ⟨g, k * E.size + r, none⟩ u) (ts[k].1.set r u) d' ts[k].2.2 := E.own_keep hown (by simp) fun x hx => Below.heap_setCell w _ u x (fun e => hgn (by have e' : x = g := e; rw [← e']; exact hx))
    refine ⟨ts.set k (ts[k].1.set r u, d', ts[k].2.2), by rw [List.map_set], ?_, fun t ht => ?_, ?_⟩
    · have := owns_set ho hg (k * E.size + r) u
      rw [flat_put (fun t : List Value × D × List Nat => t.1) E.size ts hlen k hk' r hr u (ts[k].1.set r u, d', ts[k].2.2) rfl] at this
      simpa using this
    · rcases List.mem_or_eq_of_mem_set ht with ht | rfl
      · exact hkeepo t ht
      · exact hnew
    · rw [flat_same (fun t : List Value × D × List Nat => t.2.2) ts k hk' (ts[k].1.set r u, d', ts[k].2.2) rfl]
  · refine ⟨ts.set k (ts[k].1, d', ts[k].2.2), by rw [List.map_set], ?_, fun t ht => ?_, ?_⟩
    · have hgk : w'.heap[g]? = w.heap[g]? := hkeep g (List.mem_append_left _ hgb) hgn
      have := owns_kept (w' := w') ho fun q hq _ => by rw [hg] at hq; obtain rfl := Option.some.inj hq; exact hgk
      rw [flat_same (fun t : List Value × D × List Nat => t.1) ts k hk' (ts[k].1, d', ts[k].2.2) rfl]
      simpa using this
    · obtain ⟨i, hi, rfl⟩ := List.mem_iff_getElem.1 ht
      have hi' : i < ts.length := by simpa using hi
      by_cases e : i = k
      · subst e; simpa using hown
      · rw [List.getElem_set_ne (by omega)]
        refine E.own_keep (hE _ (List.getElem_mem hi')) hs fun x hx => hkeep x (List.mem_append_right _ (List.mem_flatMap.2 ⟨_, List.getElem_mem hi', hx⟩)) fun hxk => ?_
        have hnf : (ts.flatMap (·.2.2)).Nodup := nodup_right hn
        rw [List.flatMap_def] at hnf
        have hpw := (List.pairwise_flatten.1 hnf).2
        have hlt := List.pairwise_iff_getElem.1 hpw
        rcases Nat.lt_or_gt_of_ne e with h | h
        · exact hlt i k (by simpa using hi') (by simpa using hk') h x (by simpa using hx) x (by simpa using hxk) rfl
        · exact hlt k i (by simpa using hk') (by simpa using hi') h x (by simpa using hxk) x (by simpa using hx) rfl
    · rw [flat_same (fun t : List Value × D × List Nat => t.2.2) ts k hk' (ts[k].1, d', ts[k].2.2) rfl]
  · have hkeepo : ∀ t ∈ ts, E.own (setsFrom w g (k * E.size + A.length) cs') t.1 t.2.1 t.2.2 := fun t ht => E.own_keep (hE t ht) (Nat.le_of_eq (setsFrom_size g _ _ _).symm) fun x hx => setsFrom_other g _ _ _ x (fun e => hoth t ht (e ▸ hx))
    have hnew : E.own (setsFrom w g (k * E.size + A.length) cs') (A ++ cs' ++ C) d' ts[k].2.2 := E.own_keep hown (Nat.le_of_eq (setsFrom_size g _ _ _).symm) fun x hx => setsFrom_other g _ _ _ x (fun e => hgn (e ▸ hx))
    refine ⟨ts.set k (A ++ cs' ++ C, d', ts[k].2.2), by rw [List.map_set], ?_, fun t ht => ?_, ?_⟩
    · have hA : ((ts.take k).flatMap (fun t : List Value × D × List Nat => t.1)).length = k * E.size := by
        rw [flat_len (fun t : List Value × D × List Nat => t.1) E.size (ts.take k) (fun t ht => hlen t (List.mem_of_mem_take ht)), List.length_take, Nat.min_eq_left (by omega)]
      have ho2 := ho
      rw [flat_split (fun t : List Value × D × List Nat => t.1) ts k hk', hABC] at ho2
      have := owns_sets hg cs' w ((ts.take k).flatMap (fun t : List Value × D × List Nat => t.1) ++ A) B (C ++ (ts.drop (k + 1)).flatMap (fun t : List Value × D × List Nat => t.1)) (by simpa using ho2) hBl
      rw [List.length_append, hA] at this
      rw [flat_split (fun t : List Value × D × List Nat => t.1) (ts.set k (A ++ cs' ++ C, d', ts[k].2.2)) k (by simpa using hk')]
      simpa [List.take_set_of_le, List.drop_set_of_lt] using this
    · rcases List.mem_or_eq_of_mem_set ht with ht | rfl
      · exact hkeepo t ht
      · exact hnew
    · rw [flat_same (fun t : List Value × D × List Nat => t.2.2) ts k hk' (A ++ cs' ++ C, d', ts[k].2.2) rfl]
end
section
variable {D : Type} {E : Shp D}
/-- Rows without memory behind their cells: the same as a row of cells. -/
theorem RdR.flat {f : D → List Value} (hf : ∀ w cs d, E.rd w cs d → cs = f d) {w : World} {v : Value} {L : List D} (h : RdR E w v L) : Reads w v L.length E.size (L.flatMap f) := by
  obtain ⟨ts, rfl, hr, hE⟩ := h
  have e : ts.flatMap (fun t => t.1) = (ts.map (fun t => t.2)).flatMap f := by
    rw [List.flatMap_map]
    have hh : ∀ t ∈ ts, t.1 = f t.2 := fun t ht => hf w _ _ (hE t ht)
    clear hr hE
    induction ts with
    | nil => rfl
    | cons t ts ih => simp only [List.flatMap_cons]; rw [ih (fun x hx => hh x (by simp [hx])), ← hh t (by simp)]
  rw [← e]
  simpa using hr
theorem OwX.flat {f : D → List Value} (hf : ∀ w cs d, E.rd w cs d → cs = f d) {w : World} {lo hi : Nat} {v : Value} {L : List D} (h : OwX E w lo hi v L) : w.ownsRow lo E.ty E.size v L.length (L.flatMap f) := by
  obtain ⟨bs, ⟨ts, rfl, ho, hE, rfl⟩, hn, hb⟩ := h
  have e : ts.flatMap (fun t => t.1) = (ts.map (fun t => t.2.1)).flatMap f := by
    rw [List.flatMap_map]
    have hh : ∀ t ∈ ts, t.1 = f t.2.1 := fun t ht => hf w _ _ (E.own_rd (hE t ht))
    clear ho hE hn hb
    induction ts with
    | nil => rfl
    | cons t ts ih => simp only [List.flatMap_cons]; rw [ih (fun x hx => hh x (by simp [hx])), ← hh t (by simp)]
  rw [← e]
  exact owns_base (by simpa using ho) fun k hk => (hb k (by simp [hk])).1
theorem owX_flat {f : D → List Value} {w : World} {lo : Nat} {v : Value} {L : List D} (hf : ∀ d ∈ L, E.own w (f d) d []) (h : w.ownsRow lo E.ty E.size v L.length (L.flatMap f)) : OwX E w lo w.heap.size v L := by
  refine ⟨v.ownBlock.toList, ⟨L.map fun d => (f d, d, []), by simp [Function.comp_def], ?_, fun t ht => ?_, ?_⟩, opt_nodup _, fun b hb => ?_⟩
  · have := owns_base (base' := 0) h fun k _ => Nat.zero_le _
    simpa [List.flatMap_map] using this
  · obtain ⟨d, hd, rfl⟩ := List.mem_map.1 ht
    exact hf d hd
  · have : ∀ M : List D, (M.map fun d => ((f d, d, []) : List Value × D × List Nat)).flatMap (fun t => t.2.2) = [] := fun M => by induction M <;> simp_all
    rw [this]; simp
  · cases hv : v.ownBlock with
    | none => rw [hv] at hb; cases hb
    | some g => rw [hv] at hb; simp at hb; subst hb; exact h.lt b hv
end
/-- Of what was there only the blocks bs have turned. -/
structure TurnB (bs : List Nat) (w w' : World) : Prop where
  os : w'.os = w.os
  tape : w'.tape = w.tape
  output : w'.output = w.output
  size : w.heap.size ≤ w'.heap.size
  block : ∀ k, k < w.heap.size → k ∉ bs → w'.heap[k]? = w.heap[k]?
theorem TurnB.refl (bs : List Nat) (w : World) : TurnB bs w w := ⟨rfl, rfl, rfl, Nat.le_refl _, fun _ _ _ => rfl⟩
theorem TurnB.trans {bs : List Nat} {a b c : World} (h : TurnB bs a b) (k : TurnB bs b c) : TurnB bs a c :=
  ⟨k.os.trans h.os, k.tape.trans h.tape, k.output.trans h.output, Nat.le_trans h.size k.size, fun i hi h' => (k.block i (Nat.lt_of_lt_of_le hi h.size) h').trans (h.block i hi h')⟩
theorem TurnB.wide {bs bs' : List Nat} {a b : World} (h : TurnB bs a b) (hs : ∀ x ∈ bs, x ∈ bs') : TurnB bs' a b := ⟨h.os, h.tape, h.output, h.size, fun k hk hn => h.block k hk fun hx => hn (hs k hx)⟩
theorem TurnB.new {bs : List Nat} {a b : World} (h : Below a.heap.size a b) : TurnB bs a b := ⟨h.os, h.tape, h.output, h.size, fun k hk _ => h.block k hk⟩
theorem TurnB.set {bs : List Nat} {a b : World} (h : TurnB bs a b) (p : Addr) (v : Value) (hp : p.block ∈ bs) : TurnB bs a (b.setCell p v) :=
  ⟨h.os, h.tape, h.output, by simp; exact h.size, fun k hk hn => by rw [Below.heap_setCell b p v k (fun e => hn (by rw [e]; exact hp))]; exact h.block k hk hn⟩
theorem TurnB.setsFrom {bs : List Nat} {a : World} (g : Nat) (hg : g ∈ bs) : ∀ (cs : List Value) (w : World) (o : Nat), TurnB bs a w → TurnB bs a (setsFrom w g o cs)
  | [], w, o, h => h
  | c :: cs, w, o, h => TurnB.setsFrom g hg cs _ _ (h.set _ c (by simpa using hg))
theorem TurnB.turn {bs : List Nat} {a b : World} {lo hi : Nat} (h : TurnB bs a b) (hb : ∀ x ∈ bs, lo ≤ x ∧ x < hi) : Turn lo hi a b := ⟨h.os, h.tape, h.output, h.size, fun k hk hn => h.block k hk fun hx => by have := hb k hx; omega⟩
end Go.Proofs.YtfemmnhfllbgjaaGreatDoor
