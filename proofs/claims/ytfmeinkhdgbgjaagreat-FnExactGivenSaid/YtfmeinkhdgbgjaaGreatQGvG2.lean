/- Several small texts of one level, one behind the other. -/
import Derived.Test.YtfmeinkhdgbgjaaGreatQGvG1
import Derived.Deep.AppendLies
import Derived.Deep.Slices
import Derived.Laws.MakeOwn
import Derived.Handy
import Derived.Deep.QuietTactic
import Derived.BigQuiet
import Derived.WalkKit
import Derived.ProofKit
import Derived.OpenShut
import Derived.Lib.SmallJoins
import Derived.WalkLawsBesides
import Derived.Maps.AppendAt
import Derived.Laws.AppendOwn
import Derived.Laws.IdiomStrings
import Derived.Lib.BufferRead
import Derived.RangeFuncBox
import Derived.Shelf.LaysM
import Derived.Shelf.Strconv.Clone
import Derived.Lib.SlBytesRow
import Derived.Lib.ConvBytes
import Derived.Lib.BufferWrite
import Derived.RegionTactic
import Derived.Laws.StructEq
import Derived.Maps.Own
/- Rows in memory: what a slice reads as, a row that a call made and owns, and what becomes of both when other blocks turn. -/
namespace Go.Proofs.YtfmeinkhdgbgjaaGreat
open Go.RowKit
set_option maxRecDepth 100000
set_option linter.unusedVariables false
set_option linter.unusedSimpArgs false

theorem hide {p : Prop} (h : p) : Hid p := h
/-- The slice v has n elements of 'size' cells, and its cells hold xs. -/
def Reads (w : World) (v : Value) (n size : Nat) (xs : List Value) : Prop :=
  xs.length = n * size ∧ ∃ ad cap, v = .slice ad n cap ∧ n ≤ cap ∧ cap ≤ maxLen ∧
    (0 < n → ∃ b o, ad = some ⟨b, o, none⟩ ∧ b < w.heap.size ∧ ∀ j u, xs[j]? = some u → w.cell? ⟨b, o + j, none⟩ = some u)

/-- Of what was there only blocks from lo up to hi have turned. -/
structure Turn (lo hi : Nat) (w w' : World) : Prop where
  os : w'.os = w.os
  tape : w'.tape = w.tape
  output : w'.output = w.output
  size : w.heap.size ≤ w'.heap.size
  block : ∀ k, k < w.heap.size → (k < lo ∨ hi ≤ k) → w'.heap[k]? = w.heap[k]?

theorem Turn.refl (lo hi : Nat) (w : World) : Turn lo hi w w := ⟨rfl, rfl, rfl, Nat.le_refl _, fun _ _ _ => rfl⟩
theorem Turn.trans {lo hi : Nat} {a b c : World} (h : Turn lo hi a b) (k : Turn lo hi b c) : Turn lo hi a c :=
  ⟨k.os.trans h.os, k.tape.trans h.tape, k.output.trans h.output, Nat.le_trans h.size k.size, fun i hi h' => (k.block i (Nat.lt_of_lt_of_le hi h.size) h').trans (h.block i hi h')⟩
theorem Turn.wide {lo hi lo' hi' : Nat} {a b : World} (h : Turn lo hi a b) (h1 : lo' ≤ lo) (h2 : hi ≤ hi') : Turn lo' hi' a b :=
  ⟨h.os, h.tape, h.output, h.size, fun k hk h' => h.block k hk (by omega)⟩
theorem Turn.cell {lo hi : Nat} {a b : World} (h : Turn lo hi a b) (p o : Nat) (h1 : p < a.heap.size) (h2 : p < lo ∨ hi ≤ p) : b.cell? ⟨p, o, none⟩ = a.cell? ⟨p, o, none⟩ := World.cell?_of_block (h.block p h1 h2)
theorem Turn.frozen {lo hi : Nat} {a b : World} (h : Turn lo hi a b) (p o : Nat) (h1 : p < a.heap.size) (h2 : p < lo ∨ hi ≤ p) : b.frozen? ⟨p, o, none⟩ = a.frozen? ⟨p, o, none⟩ := World.frozen?_of_block (h.block p h1 h2)
theorem Turn.below {lo hi B : Nat} {a b : World} (h : Turn lo hi a b) (h1 : B ≤ lo) (h2 : B ≤ a.heap.size) : Below B a b := ⟨h.os, h.tape, h.output, h.size, fun k hk => h.block k (by omega) (by omega)⟩
/-- A call that made memory turned nothing. -/
theorem turn_new {a b : World} (h : Below a.heap.size a b) (lo hi : Nat) : Turn lo hi a b := ⟨h.os, h.tape, h.output, h.size, fun k hk _ => h.block k hk⟩
theorem Turn.alloc {lo hi : Nat} {a b : World} (h : Turn lo hi a b) (o : Obj) : Turn lo hi a (b.alloc o) :=
  ⟨h.os, h.tape, h.output, by simp; have := h.size; omega, fun k hk h' => by rw [((Below.refl b.heap.size b).alloc (Nat.le_refl _) o).block k (by have := h.size; omega)]; exact h.block k hk h'⟩
theorem Turn.setCell {lo hi : Nat} {a b : World} (h : Turn lo hi a b) {p : Addr} (v : Value) (h1 : (lo ≤ p.block ∧ p.block < hi) ∨ a.heap.size ≤ p.block) : Turn lo hi a (b.setCell p v) :=
  ⟨h.os, h.tape, h.output, by simp; exact h.size, fun k hk h' => by rw [Below.heap_setCell b p v k (by omega)]; exact h.block k hk h'⟩
theorem Turn.drewN {lo hi : Nat} {a b : World} (h : Turn lo hi a b) (n : Nat) : Turn lo hi a (b.drewN n) := ⟨h.os, h.tape, h.output, h.size, h.block⟩
theorem Turn.drew {lo hi : Nat} {a b : World} (h : Turn lo hi a b) : Turn lo hi a b.drew := ⟨h.os, h.tape, h.output, h.size, h.block⟩
theorem gb_refl (w : World) (row : Option Nat) : w.grownBy w row := ⟨rfl, rfl, rfl, Nat.le_refl _, fun _ _ _ => rfl⟩
theorem gb_trans {a b c : World} {row : Option Nat} (h : a.grownBy b row) (k : b.grownBy c row) : a.grownBy c row :=
  ⟨k.os.trans h.os, k.tape.trans h.tape, k.output.trans h.output, Nat.le_trans h.size k.size, fun i hi hr => (k.block i (Nat.lt_of_lt_of_le hi h.size) hr).trans (h.block i hi hr)⟩
theorem gb_set {a b : World} {row : Option Nat} (h : a.grownBy b row) (p : Addr) (v : Value) (hp : row = some p.block) : a.grownBy (b.setCell p v) row :=
  ⟨h.os, h.tape, h.output, by simp; exact h.size, fun k hk hr => by rw [Below.heap_setCell b p v k (fun e => hr (by rw [hp, e]))]; exact h.block k hk hr⟩
theorem gb_new {a b : World} (h : Below a.heap.size a b) (row : Option Nat) : a.grownBy b row := ⟨h.os, h.tape, h.output, h.size, fun k hk _ => h.block k hk⟩

theorem Reads.kept {w w' : World} {v : Value} {n size : Nat} {xs : List Value} (h : Reads w v n size xs) (hs : w.heap.size ≤ w'.heap.size) (hk : ∀ k, v.ownBlock = some k → k < w.heap.size → w'.heap[k]? = w.heap[k]?) : Reads w' v n size xs := by
  obtain ⟨hl, ad, cap, rfl, h1, h2, h3⟩ := h
  refine ⟨hl, ad, cap, rfl, h1, h2, fun hn => ?_⟩
  obtain ⟨b, o, rfl, hb, hc⟩ := h3 hn
  exact ⟨b, o, rfl, by omega, fun j u hu => by rw [World.cell?_of_block (w := w) (hk b rfl hb)]; exact hc j u hu⟩
theorem Reads.new {w w' : World} {v : Value} {n size : Nat} {xs : List Value} (h : Reads w v n size xs) (hb : Below w.heap.size w w') : Reads w' v n size xs := h.kept hb.size fun k _ hk => hb.block k hk
theorem Reads.turn {lo hi : Nat} {w w' : World} {v : Value} {n size : Nat} {xs : List Value} (h : Reads w v n size xs) (ht : Turn lo hi w w') (hk : ∀ k, v.ownBlock = some k → k < lo ∨ hi ≤ k) : Reads w' v n size xs :=
  h.kept ht.size fun k e hk' => ht.block k hk' (hk k e)
theorem Reads.alloc {w : World} {v : Value} {n size : Nat} {xs : List Value} (h : Reads w v n size xs) (o : Obj) : Reads (w.alloc o) v n size xs := h.kept (by simp) fun k _ hk => ((Below.refl w.heap.size w).alloc (Nat.le_refl _) o).block k hk

theorem reads_of_owns {w : World} {base : Nat} {e : TypeId} {size : Nat} {v : Value} {n : Nat} {xs : List Value} (h : w.ownsRow base e size v n xs) : Reads w v n size xs := by
  refine ⟨h.1, ?_⟩
  rcases h.2 with ⟨rfl, rfl⟩ | ⟨g, cap, cur, rfl, hb, hg, h1, h2, h3, h4⟩
  · exact ⟨none, 0, rfl, Nat.le_refl _, Nat.zero_le _, fun h => absurd h (Nat.lt_irrefl _)⟩
  · refine ⟨some ⟨g, 0, none⟩, cap, rfl, h1, h2, fun hn => ⟨g, 0, rfl, (Array.getElem?_eq_some_iff.1 hg).1, fun j u hu => ?_⟩⟩
    rw [Nat.zero_add, cell_of_row w g j cur e (0, 0) hg]
    rw [← h4, List.getElem?_take] at hu
    split at hu
    · simpa using hu
    · cases hu

theorem owns_kept {w w' : World} {base : Nat} {e : TypeId} {size : Nat} {v : Value} {n : Nat} {xs : List Value} (h : w.ownsRow base e size v n xs) (hk : ∀ k, v.ownBlock = some k → k < w.heap.size → w'.heap[k]? = w.heap[k]?) : w'.ownsRow base e size v n xs := by
  refine ⟨h.1, ?_⟩
  rcases h.2 with hn | ⟨g, cap, cur, rfl, hb, hgg, rest⟩
  · exact .inl hn
  · refine .inr ⟨g, cap, cur, rfl, hb, ?_, rest⟩
    rw [hk g rfl (Array.getElem?_eq_some_iff.1 hgg).1]
    exact hgg
theorem owns_new {w w' : World} {base : Nat} {e : TypeId} {size : Nat} {v : Value} {n : Nat} {xs : List Value} (h : w.ownsRow base e size v n xs) (hb : Below w.heap.size w w') : w'.ownsRow base e size v n xs := owns_kept h fun k _ hk => hb.block k hk
theorem owns_base {w : World} {base base' : Nat} {e : TypeId} {size : Nat} {v : Value} {n : Nat} {xs : List Value} (h : w.ownsRow base e size v n xs) (hb : ∀ k, v.ownBlock = some k → base' ≤ k) : w.ownsRow base' e size v n xs := by
  refine ⟨h.1, ?_⟩
  rcases h.2 with hn | ⟨g, cap, cur, rfl, _, rest⟩
  · exact .inl hn
  · exact .inr ⟨g, cap, cur, rfl, hb g rfl, rest⟩
theorem owns_far {w : World} {base : Nat} {e : TypeId} {size : Nat} {v : Value} {n : Nat} {xs : List Value} (B : Nat) (h : w.ownsRow base e size v n xs) (hv : ∀ k, v.ownBlock = some k → B ≤ k) (p : Addr) (u : Value) (hp : p.block < B) : (w.setCell p u).ownsRow base e size v n xs :=
  owns_kept h fun k hk _ => Below.heap_setCell w p u k (by have := hv k hk; omega)
theorem owns_apart {w : World} {base : Nat} {e : TypeId} {size : Nat} {v : Value} {n : Nat} {xs : List Value} (h : w.ownsRow base e size v n xs) (p : Addr) (u : Value) (hp : v.ownBlock ≠ some p.block) : (w.setCell p u).ownsRow base e size v n xs :=
  owns_kept h fun k hk _ => Below.heap_setCell w p u k (fun e => hp (by rw [hk, e]))
/-- One cell of a row that is owned is set. -/
theorem owns_set {w : World} {base : Nat} {e : TypeId} {size : Nat} {v : Value} {n : Nat} {xs : List Value} (h : w.ownsRow base e size v n xs) {g : Nat} (hg : v.ownBlock = some g) (j : Nat) (u : Value) : (w.setCell ⟨g, j, none⟩ u).ownsRow base e size v n (xs.set j u) := by
  refine ⟨by simp [h.1], ?_⟩
  rcases h.2 with ⟨rfl, _⟩ | ⟨g', cap, cur, rfl, hb, hgg, h1, h2, h3, h4⟩
  · simp [Value.ownBlock] at hg
  · simp [Value.ownBlock] at hg
    subst hg
    refine .inr ⟨g', cap, cur.setIfInBounds j u, rfl, hb, ?_, h1, h2, by simp [h3], ?_⟩
    · simp [World.setCell, Array.getElem?_modify, hgg]
    · rw [← h4]; simp [List.take_set]
/-- What the walk wants of a row that is owned: where it lies, its cells, its marks. -/
theorem owns_open {w : World} {base : Nat} {e : TypeId} {size : Nat} {v : Value} {n : Nat} {xs : List Value} (h : w.ownsRow base e size v n xs) (hn : 0 < n) : ∃ g cap, v = .slice (some ⟨g, 0, none⟩) n cap ∧ v.ownBlock = some g ∧ base ≤ g ∧ g < w.heap.size ∧ n ≤ cap ∧ cap ≤ maxLen ∧
    (∀ j u, xs[j]? = some u → w.cell? ⟨g, j, none⟩ = some u) ∧ ∀ j, w.frozen? ⟨g, j, none⟩ = false := by
  rcases h.2 with ⟨rfl, rfl⟩ | ⟨g, cap, cur, rfl, hb, hgg, h1, h2, h3, h4⟩
  · exact absurd hn (Nat.lt_irrefl _)
  · refine ⟨g, cap, rfl, rfl, hb, (Array.getElem?_eq_some_iff.1 hgg).1, h1, h2, fun j u hu => ?_, fun j => by simp [World.frozen?, hgg]⟩
    rw [cell_of_row w g j cur e (0, 0) hgg]
    rw [← h4, List.getElem?_take] at hu
    split at hu
    · simpa using hu
    · cases hu
theorem owns_form {w : World} {base : Nat} {e : TypeId} {size : Nat} {v : Value} {n : Nat} {xs : List Value} (h : w.ownsRow base e size v n xs) : ∃ ad cap, v = .slice ad n cap ∧ n ≤ cap ∧ cap ≤ maxLen := by
  obtain ⟨_, ad, cap, h1, h2, h3, _⟩ := reads_of_owns h
  exact ⟨ad, cap, h1, h2, h3⟩
theorem owns_lt {w : World} {base : Nat} {e : TypeId} {size : Nat} {v : Value} {n : Nat} {xs : List Value} (h : w.ownsRow base e size v n xs) : ∀ k, v.ownBlock = some k → base ≤ k ∧ k < w.heap.size := h.lt

/-- Element i of rows laid one behind the other. -/
theorem flat_get {α : Type} (f : α → List Value) (s : Nat) (hf : ∀ x, (f x).length = s) (L : List α) (i : Nat) (hi : i < L.length) (r : Nat) (hr : r < s) : (L.flatMap f)[i * s + r]? = (f L[i])[r]? := by
  induction L generalizing i with
  | nil => exact absurd hi (Nat.not_lt_zero _)
  | cons x L ih =>
    cases i with
    | zero => simp only [List.flatMap_cons, Nat.zero_mul, Nat.zero_add]; rw [List.getElem?_append_left (by rw [hf]; omega)]; rfl
    | succ i =>
      simp only [List.flatMap_cons]
      rw [List.getElem?_append_right (by rw [hf, Nat.succ_mul]; omega), hf, show (i + 1) * s + r - s = i * s + r by rw [Nat.succ_mul]; omega]
      simpa using ih i (by simpa using hi)
theorem flat_length {α : Type} (f : α → List Value) (s : Nat) (hf : ∀ x, (f x).length = s) (L : List α) : (L.flatMap f).length = L.length * s := by
  induction L with
  | nil => simp
  | cons x L ih => simp only [List.flatMap_cons, List.length_append, List.length_cons, hf, ih, Nat.succ_mul]; omega
theorem flat_set {α : Type} (f : α → List Value) (s : Nat) (hf : ∀ x, (f x).length = s) (L : List α) (i : Nat) (hi : i < L.length) (r : Nat) (hr : r < s) (u : Value) (y : α) (hy : f y = (f L[i]).set r u) : (L.flatMap f).set (i * s + r) u = (L.set i y).flatMap f := by
  induction L generalizing i with
  | nil => exact absurd hi (Nat.not_lt_zero _)
  | cons x L ih =>
    cases i with
    | zero =>
      simp only [List.flatMap_cons, Nat.zero_mul, Nat.zero_add, List.set_cons_zero]
      rw [List.set_append_left _ _ (by rw [hf]; omega), hy]; rfl
    | succ i =>
      simp only [List.flatMap_cons, List.set_cons_succ]
      rw [List.set_append_right _ _ (by rw [hf, Nat.succ_mul]; omega), hf, show (i + 1) * s + r - s = i * s + r by rw [Nat.succ_mul]; omega]
      rw [ih i (by simpa using hi) (by simpa using hy)]
theorem int_eq {a b : Int} (h : a = b) : Value.int .i64 a = .int .i64 b := by rw [h]
theorem pre_set {xs ys : List Value} {m : Nat} {a : Value} (m' : Nat) (h : ∀ j, j < m → xs[j]? = ys[j]?) (hy : ys[m]? = some a) (hm : m < xs.length) (hm' : m' = m + 1) : ∀ j, j < m' → (xs.set m a)[j]? = ys[j]? := by
  intro j hj
  subst hm'
  rw [List.getElem?_set]
  split
  · rename_i h'; subst h'; simp [hy, hm]
  · exact h j (by omega)
theorem pre_end {xs ys : List Value} {m : Nat} (hx : xs.length = m) (hy : ys.length = m) (h : ∀ j, j < m → xs[j]? = ys[j]?) : xs = ys := List.ext_getElem? fun j => by
  by_cases hj : j < m
  · exact h j hj
  · rw [List.getElem?_eq_none (by omega), List.getElem?_eq_none (by omega)]
end Go.Proofs.YtfmeinkhdgbgjaaGreat
/- Regions that draw their order and hold calls that make memory: one walk in the order of the text serves them all. -/
namespace Go.Proofs.YtfmeinkhdgbgjaaGreat
open Go.RowKit
set_option maxRecDepth 100000
set_option linter.unusedVariables false

/-- A world behind V: of what was in V nothing has turned. -/
structure Later (V : World) where
  w : World
  b : Below V.heap.size V w
theorem later_calls {P : Program} {f : FuncId} {args : Array Value} {V : World} {x : Later V} {v : Value} (h : Calls P f args x.w fun e w' => e = .returned v ∧ Below x.w.heap.size x.w w') :
    Calls P f args x.w fun e w'' => e = .returned v ∧ ∃ y : Later V, w'' = y.w := h.mono fun _ w' h => ⟨h.1, ⟨w', bchain x.b h.2⟩, rfl⟩
theorem later_same {P : Program} {f : FuncId} {args : Array Value} {V : World} {x : Later V} {v : Value} (h : Calls P f args x.w fun e w' => e = .returned v ∧ w' = x.w) :
    Calls P f args x.w fun e w'' => e = .returned v ∧ ∃ y : Later V, w'' = y.w := h.mono fun _ w' h => ⟨h.1, x, h.2⟩
/-- A region that draws its order, whose operations read and whose callees may make memory: one walk in the text's order serves every order. -/
theorem region_later {P : Program} {id : Nat} {Q : Exit → Act → World → Prop} {a : Act} {w : World} {l : List Oper} (hm : P.follows .mixedOrders = true) (hB : Region.lexB .any l.toArray = true)
    (h : wpQuiet P l.toArray (fun w' => ∃ x : Later w, w' = x.w) (fun a' => ∀ w', (∃ x : Later w, w' = x.w) → Q .normal a' w') l a) : (Code.region id l.toArray true).wp P Q a w :=
  wp_region_quiet (C := fun w' => ∃ x : Later w, w' = x.w) hm hB ⟨⟨w.drewN 1, bo_drewN 1 (Below.refl _ _)⟩, rfl⟩ (by simpa using h)

end Go.Proofs.YtfmeinkhdgbgjaaGreat
/- Stream states in plain words: what an event makes of a state, who may speak, a row of events. -/
namespace Go.Proofs.YtfmeinkhdgbgjaaGreat
open Go.RowKit
set_option maxRecDepth 100000
set_option linter.unusedSimpArgs false
set_option linter.unusedVariables false

def nxV (s e : Int) : Int × Bool :=
  if s = 0 then (if e = 1 then (1, true) else (s, false))
  else if s = 1 then (if e = 2 then (2, true) else if e = 3 then (3, true) else if e = 6 ∨ e = 7 then (s, true) else if e = 4 ∨ e = 5 then (4, true) else (s, false))
  else if s = 2 then (if e = 3 ∨ e = 4 ∨ e = 5 then (4, true) else if e = 7 then (s, true) else (s, false))
  else if s = 3 then (if e = 2 ∨ e = 4 ∨ e = 5 then (4, true) else if e = 6 then (s, true) else (s, false))
  else if s = 4 then (if e = 4 ∨ e = 5 then (s, true) else (s, false))
  else (s, false)
def msV (s : Int) : Bool := decide (s = 1 ∨ s = 2)
theorem nx_closed {e n : Int} {b : Bool} (h : nxV 4 e = (n, b)) : n = 4 := by
  unfold nxV at h
  simp at h
  split at h <;> simp at h <;> omega
/-- The states and the events, parted. -/
theorem st_cases (s : Int) : s = 0 ∨ s = 1 ∨ s = 2 ∨ s = 3 ∨ s = 4 ∨ (s ≠ 0 ∧ s ≠ 1 ∧ s ≠ 2 ∧ s ≠ 3 ∧ s ≠ 4) := by omega
theorem ev_cases (e : Int) : e = 1 ∨ e = 2 ∨ e = 3 ∨ e = 4 ∨ e = 5 ∨ e = 6 ∨ e = 7 ∨ (e ≠ 1 ∧ e ≠ 2 ∧ e ≠ 3 ∧ e ≠ 4 ∧ e ≠ 5 ∧ e ≠ 6 ∧ e ≠ 7) := by omega
theorem nx_bad {s e : Int} (h : s ≠ 0 ∧ s ≠ 1 ∧ s ≠ 2 ∧ s ≠ 3 ∧ s ≠ 4) : nxV s e = (s, false) := by
  unfold nxV
  simp [h.1, h.2.1, h.2.2.1, h.2.2.2.1, h.2.2.2.2]
theorem nx_none {s e : Int} (h : e ≠ 1 ∧ e ≠ 2 ∧ e ≠ 3 ∧ e ≠ 4 ∧ e ≠ 5 ∧ e ≠ 6 ∧ e ≠ 7) : nxV s e = (s, false) := by
  unfold nxV
  simp [h.1, h.2.1, h.2.2.1, h.2.2.2.1, h.2.2.2.2.1, h.2.2.2.2.2.1, h.2.2.2.2.2.2]
end Go.Proofs.YtfmeinkhdgbgjaaGreat
/- What each Go function of chapter 1 (pipes), of the program and of its model, answers at every argument: one contract a function. -/
namespace Go.Proofs.YtfmeinkhdgbgjaaGreat
open Go.RowKit
set_option maxRecDepth 100000
set_option linter.unusedSimpArgs false
set_option linter.unusedVariables false

/-- Is a pipe right? -/
def okB (r : Int) (b : ByteArray) (k : Bool) : Bool := decide (1 ≤ r ∧ r ≤ 2000 ∧ (b.size : Int) ≤ r) && (!k || b.toList.isEmpty)

theorem okB_low {r : Int} {b : ByteArray} {k : Bool} (h : ¬ (1 ≤ r ∧ r ≤ 2000 ∧ (b.size : Int) ≤ r)) : okB r b k = false := by simp [okB, h]
theorem okB_rest {r : Int} {b : ByteArray} {k : Bool} (h : 1 ≤ r ∧ r ≤ 2000 ∧ (b.size : Int) ≤ r) : okB r b k = (!k || b.toList.isEmpty) := by simp [okB, h]

theorem sz (r : Int) (b : ByteArray) (e k : Bool) (left : Int) (w : World) (hb : b.size ≤ maxLen) (h0 : 0 ≤ left) (h1 : left ≤ 1048576) :
    Calls Tryz.prog 261 #[.agg #[.int .i64 r, .string b, .bool e, .bool k], .int .i64 left] w fun x w' => x = .returned (.int .i64 (if left - b.size < 0 then -1 else left - b.size)) ∧ Below w.heap.size w w' := by
  unfold maxLen at hb
  by_cases h : left - b.size < 0
  · go_enter Tryz.func261, Tryz.ntmps261
    go_wp2
    go_ret
    exact ⟨by simp [h], (by repeat' (first | (with_reducible exact Below.refl _ _) | (with_reducible refine Below.drew ?_) | (with_reducible refine bo_drewN _ ?_) | (with_reducible refine bo_alloc ?_ _) | (refine bchain ?_ (by with_reducible assumption)) | (with_reducible refine Below.setCell ?_ ?_ _) | go_size))⟩
  · go_enter Tryz.func261, Tryz.ntmps261
    go_wp2
    go_ret
    exact ⟨by simp [h], (by repeat' (first | (with_reducible exact Below.refl _ _) | (with_reducible refine Below.drew ?_) | (with_reducible refine bo_drewN _ ?_) | (with_reducible refine bo_alloc ?_ _) | (refine bchain ?_ (by with_reducible assumption)) | (with_reducible refine Below.setCell ?_ ?_ _) | go_size))⟩

theorem toP (r : Int) (b : ByteArray) (e k : Bool) (w : World) :
    Calls Tryz.prog 262 #[.agg #[.int .i64 r, .string b, .bool e, .bool k]] w fun x w' => x = .returned (.agg #[.int .i64 r, .string b, .bool e, .bool k]) ∧ Below w.heap.size w w' := by
  go_enter Tryz.func262, Tryz.ntmps262
  go_wp2
  go_returns
  exact ⟨rfl, (by repeat' (first | (with_reducible exact Below.refl _ _) | (with_reducible refine Below.drew ?_) | (with_reducible refine bo_drewN _ ?_) | (with_reducible refine bo_alloc ?_ _) | (refine bchain ?_ (by with_reducible assumption)) | (with_reducible refine Below.setCell ?_ ?_ _) | go_size))⟩

theorem eqP (r : Int) (b : ByteArray) (e k : Bool) (w : World) :
    Calls Tryz.prog 263 #[.agg #[.int .i64 r, .string b, .bool e, .bool k], .agg #[.int .i64 r, .string b, .bool e, .bool k]] w fun x w' => x = .returned (.bool true) ∧ Below w.heap.size w w' := by
  go_enter Tryz.func263, Tryz.ntmps263
  go_wp2
  go_ret
  exact ⟨rfl, (by repeat' (first | (with_reducible exact Below.refl _ _) | (with_reducible refine Below.drew ?_) | (with_reducible refine bo_drewN _ ?_) | (with_reducible refine bo_alloc ?_ _) | (refine bchain ?_ (by with_reducible assumption)) | (with_reducible refine Below.setCell ?_ ?_ _) | go_size))⟩

theorem in1 (x lo hi : Int) (w : World) :
    Calls Tryz.prog 55 #[.int .i64 x, .int .i64 lo, .int .i64 hi] w fun e w' => e = .returned (.bool (decide (lo ≤ x ∧ x ≤ hi))) ∧ w' = w := by
  by_cases h1 : lo ≤ x
  · by_cases h2 : x ≤ hi
    · go_enter Tryz.func55, Tryz.ntmps55
      go_wp2
      go_ret
      exact ⟨by simp [h1, h2], rfl⟩
    · have hd : decide (lo ≤ x ∧ x ≤ hi) = false := by simp [h2]
      rw [hd]
      go_enter Tryz.func55, Tryz.ntmps55
      go_wp2
      go_ret
      exact ⟨by simp [h1, h2], rfl⟩
  · have hd : decide (lo ≤ x ∧ x ≤ hi) = false := by simp [h1]
    rw [hd]
    go_enter Tryz.func55, Tryz.ntmps55
    go_wp2
    go_ret
    exact ⟨rfl, rfl⟩

theorem specOk (r : Int) (b : ByteArray) (e k : Bool) (w : World) (hb : b.size ≤ maxLen) :
    Calls Tryz.prog 125 #[.agg #[.int .i64 r, .string b, .bool e, .bool k]] w fun x w' => x = .returned (.bool (okB r b k)) ∧ Below w.heap.size w w' := by
  unfold maxLen at hb
  by_cases h1 : 1 ≤ r ∧ r ≤ 2000
  · have hd : decide (1 ≤ r ∧ r ≤ 2000) = true := by simp [h1]
    by_cases h2 : (b.size : Int) ≤ r
    · rw [okB_rest ⟨h1.1, h1.2, h2⟩]
      cases k
      · go_enter Tryz.func125, Tryz.ntmps125
        go_wp2_with (go_at_call 55; refine (in1 _ _ _ _).mono ?_; rintro x w' ⟨rfl, rfl⟩)
        go_ret
        exact ⟨by simp, (by repeat' (first | (with_reducible exact Below.refl _ _) | (with_reducible refine Below.drew ?_) | (with_reducible refine bo_drewN _ ?_) | (with_reducible refine bo_alloc ?_ _) | (refine bchain ?_ (by with_reducible assumption)) | (with_reducible refine Below.setCell ?_ ?_ _) | go_size))⟩
      · go_enter Tryz.func125, Tryz.ntmps125
        go_wp2_with (go_at_call 55; refine (in1 _ _ _ _).mono ?_; rintro x w' ⟨rfl, rfl⟩)
        go_ret
        exact ⟨by simp, (by repeat' (first | (with_reducible exact Below.refl _ _) | (with_reducible refine Below.drew ?_) | (with_reducible refine bo_drewN _ ?_) | (with_reducible refine bo_alloc ?_ _) | (refine bchain ?_ (by with_reducible assumption)) | (with_reducible refine Below.setCell ?_ ?_ _) | go_size))⟩
    · rw [okB_low (fun h => h2 h.2.2)]
      go_enter Tryz.func125, Tryz.ntmps125
      go_wp2_with (go_at_call 55; refine (in1 _ _ _ _).mono ?_; rintro x w' ⟨rfl, rfl⟩)
      go_ret
      exact ⟨rfl, (by repeat' (first | (with_reducible exact Below.refl _ _) | (with_reducible refine Below.drew ?_) | (with_reducible refine bo_drewN _ ?_) | (with_reducible refine bo_alloc ?_ _) | (refine bchain ?_ (by with_reducible assumption)) | (with_reducible refine Below.setCell ?_ ?_ _) | go_size))⟩
  · have hd : decide (1 ≤ r ∧ r ≤ 2000) = false := by simp [h1]
    rw [okB_low (fun h => h1 ⟨h.1, h.2.1⟩)]
    go_enter Tryz.func125, Tryz.ntmps125
    go_wp2_with (go_at_call 55; refine (in1 _ _ _ _).mono ?_; rintro x w' ⟨rfl, rfl⟩)
    go_ret
    exact ⟨rfl, (by repeat' (first | (with_reducible exact Below.refl _ _) | (with_reducible refine Below.drew ?_) | (with_reducible refine bo_drewN _ ?_) | (with_reducible refine bo_alloc ?_ _) | (refine bchain ?_ (by with_reducible assumption)) | (with_reducible refine Below.setCell ?_ ?_ _) | go_size))⟩

theorem right (r : Int) (b : ByteArray) (e k : Bool) (w : World) (hb : b.size ≤ maxLen) :
    Calls Tryz.prog 213 #[.agg #[.int .i64 r, .string b, .bool e, .bool k]] w fun x w' => x = .returned (.bool (okB r b k)) ∧ Below w.heap.size w w' := by
  unfold maxLen at hb
  by_cases h1 : r < 1
  · rw [okB_low (fun h => by omega)]
    go_enter Tryz.func213, Tryz.ntmps213
    go_wp2
    go_ret
    exact ⟨rfl, (by repeat' (first | (with_reducible exact Below.refl _ _) | (with_reducible refine Below.drew ?_) | (with_reducible refine bo_drewN _ ?_) | (with_reducible refine bo_alloc ?_ _) | (refine bchain ?_ (by with_reducible assumption)) | (with_reducible refine Below.setCell ?_ ?_ _) | go_size))⟩
  · by_cases h2 : 2000 < r
    · rw [okB_low (fun h => by omega)]
      go_enter Tryz.func213, Tryz.ntmps213
      go_wp2
      go_ret
      exact ⟨rfl, (by repeat' (first | (with_reducible exact Below.refl _ _) | (with_reducible refine Below.drew ?_) | (with_reducible refine bo_drewN _ ?_) | (with_reducible refine bo_alloc ?_ _) | (refine bchain ?_ (by with_reducible assumption)) | (with_reducible refine Below.setCell ?_ ?_ _) | go_size))⟩
    · by_cases h3 : r < (b.size : Int)
      · rw [okB_low (fun h => by omega)]
        go_enter Tryz.func213, Tryz.ntmps213
        go_wp2
        go_ret
        exact ⟨rfl, (by repeat' (first | (with_reducible exact Below.refl _ _) | (with_reducible refine Below.drew ?_) | (with_reducible refine bo_drewN _ ?_) | (with_reducible refine bo_alloc ?_ _) | (refine bchain ?_ (by with_reducible assumption)) | (with_reducible refine Below.setCell ?_ ?_ _) | go_size))⟩
      · rw [okB_rest (by omega)]
        cases k
        · go_enter Tryz.func213, Tryz.ntmps213
          go_wp2
          go_ret
          exact ⟨by simp, (by repeat' (first | (with_reducible exact Below.refl _ _) | (with_reducible refine Below.drew ?_) | (with_reducible refine bo_drewN _ ?_) | (with_reducible refine bo_alloc ?_ _) | (refine bchain ?_ (by with_reducible assumption)) | (with_reducible refine Below.setCell ?_ ?_ _) | go_size))⟩
        · go_enter Tryz.func213, Tryz.ntmps213
          go_wp2
          go_ret
          exact ⟨by simp, (by repeat' (first | (with_reducible exact Below.refl _ _) | (with_reducible refine Below.drew ?_) | (with_reducible refine bo_drewN _ ?_) | (with_reducible refine bo_alloc ?_ _) | (refine bchain ?_ (by with_reducible assumption)) | (with_reducible refine Below.setCell ?_ ?_ _) | go_size))⟩


theorem shut (r : Int) (b : ByteArray) (e k : Bool) (w : World) :
    Calls Tryz.prog 214 #[.agg #[.int .i64 r, .string b, .bool e, .bool k]] w fun x w' => x = .returned (.bool (e || k)) ∧ Below w.heap.size w w' := by
  cases e
  · go_enter Tryz.func214, Tryz.ntmps214
    go_wp2
    go_ret
    exact ⟨by simp, (by repeat' (first | (with_reducible exact Below.refl _ _) | (with_reducible refine Below.drew ?_) | (with_reducible refine bo_drewN _ ?_) | (with_reducible refine bo_alloc ?_ _) | (refine bchain ?_ (by with_reducible assumption)) | (with_reducible refine Below.setCell ?_ ?_ _) | go_size))⟩
  · go_enter Tryz.func214, Tryz.ntmps214
    go_wp2
    go_ret
    exact ⟨by simp, (by repeat' (first | (with_reducible exact Below.refl _ _) | (with_reducible refine Below.drew ?_) | (with_reducible refine bo_drewN _ ?_) | (with_reducible refine bo_alloc ?_ _) | (refine bchain ?_ (by with_reducible assumption)) | (with_reducible refine Below.setCell ?_ ?_ _) | go_size))⟩


end Go.Proofs.YtfmeinkhdgbgjaaGreat
/- What is in range: the program's word for it and the model's. -/
namespace Go.Proofs.YtfmeinkhdgbgjaaGreat
open Go.RowKit
set_option maxRecDepth 100000
set_option linter.unusedSimpArgs false
set_option linter.unusedVariables false

/-- Is x from lo to hi? -/
def inB (x lo hi : Int) : Bool := decide (lo ≤ x ∧ x ≤ hi)
theorem inB_true {x lo hi : Int} (h : inB x lo hi = true) : lo ≤ x ∧ x ≤ hi := of_decide_eq_true h
theorem inB_of {x lo hi : Int} (h : lo ≤ x) (h' : x ≤ hi) : inB x lo hi = true := decide_eq_true ⟨h, h'⟩
theorem inB_false {x lo hi : Int} (h : inB x lo hi = false) : ¬ (lo ≤ x ∧ x ≤ hi) := of_decide_eq_false h

theorem implWithin (x lo hi : Int) (w : World) : Calls Tryz.prog 127 #[.int .i64 x, .int .i64 lo, .int .i64 hi] w fun e w' => e = .returned (.bool (inB x lo hi)) ∧ w' = w := by
  by_cases h1 : lo ≤ x
  · by_cases h2 : x ≤ hi
    · have : inB x lo hi = true := decide_eq_true ⟨h1, h2⟩
      rw [this]
      go_enter Tryz.func127, Tryz.ntmps127
      go_wp2_with fail
      go_ret
      simp
    · have : inB x lo hi = false := decide_eq_false (by omega)
      rw [this]
      go_enter Tryz.func127, Tryz.ntmps127
      go_wp2_with fail
      go_ret
      simp
  · have : inB x lo hi = false := decide_eq_false (by omega)
    rw [this]
    go_enter Tryz.func127, Tryz.ntmps127
    go_wp2_with fail
    go_ret
    simp

theorem specIn (x lo hi : Int) (w : World) : Calls Tryz.prog 55 #[.int .i64 x, .int .i64 lo, .int .i64 hi] w fun e w' => e = .returned (.bool (inB x lo hi)) ∧ w' = w := by
  by_cases h1 : lo ≤ x
  · by_cases h2 : x ≤ hi
    · have : inB x lo hi = true := decide_eq_true ⟨h1, h2⟩
      rw [this]
      go_enter Tryz.func55, Tryz.ntmps55
      go_wp2_with fail
      go_ret
      simp
    · have : inB x lo hi = false := decide_eq_false (by omega)
      rw [this]
      go_enter Tryz.func55, Tryz.ntmps55
      go_wp2_with fail
      go_ret
      simp
  · have : inB x lo hi = false := decide_eq_false (by omega)
    rw [this]
    go_enter Tryz.func55, Tryz.ntmps55
    go_wp2_with fail
    go_ret
    simp
end Go.Proofs.YtfmeinkhdgbgjaaGreat
/- The cursor from which the laws draw their inputs: what its functions do to memory, and in what range they answer. -/
namespace Go.Proofs.YtfmeinkhdgbgjaaGreat
open Go.RowKit
set_option maxRecDepth 100000
set_option linter.unusedSimpArgs false
set_option linter.unusedVariables false

/-- Of what was there nothing has turned but block g. -/
structure Moves (g : Nat) (w w' : World) : Prop where
  os : w'.os = w.os
  tape : w'.tape = w.tape
  output : w'.output = w.output
  size : w.heap.size ≤ w'.heap.size
  block : ∀ k, k < w.heap.size → k ≠ g → w'.heap[k]? = w.heap[k]?

theorem Moves.refl (g : Nat) (w : World) : Moves g w w := ⟨rfl, rfl, rfl, Nat.le_refl _, fun _ _ _ => rfl⟩
theorem Moves.trans {g : Nat} {a b c : World} (h : Moves g a b) (k : Moves g b c) : Moves g a c :=
  ⟨k.os.trans h.os, k.tape.trans h.tape, k.output.trans h.output, Nat.le_trans h.size k.size, fun i hi hg => (k.block i (Nat.lt_of_lt_of_le hi h.size) hg).trans (h.block i hi hg)⟩
theorem Moves.of_below {g : Nat} {a b : World} (h : Below a.heap.size a b) : Moves g a b := ⟨h.os, h.tape, h.output, h.size, fun k hk _ => h.block k hk⟩
theorem Moves.drewN {g : Nat} {a b : World} (n : Nat) (h : Moves g a b) : Moves g a (b.drewN n) := ⟨h.os, h.tape, h.output, h.size, h.block⟩
theorem Moves.drew {g : Nat} {a b : World} (h : Moves g a b) : Moves g a b.drew := ⟨h.os, h.tape, h.output, h.size, h.block⟩
theorem Moves.alloc {g : Nat} {a b : World} (h : Moves g a b) (o : Obj) : Moves g a (b.alloc o) := h.trans (Moves.of_below (Joins.below_alloc1 b o))
theorem Moves.set {g : Nat} {a b : World} (h : Moves g a b) (o : Nat) (v : Value) : Moves g a (b.setCell ⟨g, o, none⟩ v) :=
  h.trans ⟨rfl, rfl, rfl, by simp, fun k _ hg => Below.heap_setCell b ⟨g, o, none⟩ v k hg⟩
theorem Moves.below {g B : Nat} {a b : World} (h : Moves g a b) (h1 : B ≤ g) (h2 : B ≤ a.heap.size) : Below B a b := ⟨h.os, h.tape, h.output, h.size, fun k hk => h.block k (by omega) (by omega)⟩
theorem Moves.cell {g : Nat} {a b : World} (h : Moves g a b) (k o : Nat) (h1 : k < a.heap.size) (h2 : k ≠ g) : b.cell? ⟨k, o, none⟩ = a.cell? ⟨k, o, none⟩ := World.cell?_of_block (w := a) (h.block k h1 h2)
theorem Moves.frozen {g : Nat} {a b : World} (h : Moves g a b) (k o : Nat) (h1 : k < a.heap.size) (h2 : k ≠ g) : b.frozen? ⟨k, o, none⟩ = a.frozen? ⟨k, o, none⟩ := World.frozen?_of_block (w := a) (h.block k h1 h2)

/-- The bytes of the draw, in blocks below B. -/
def CodeAt (w : World) (a : Option Addr) (len B : Nat) : Prop := ∀ j, j < len → ∃ (b o : Nat) (z : Int), a = some ⟨b, o, none⟩ ∧ b < B ∧ 0 ≤ z ∧ z ≤ 255 ∧ w.cell? ⟨b, o + j, none⟩ = some (.int .u8 z)

theorem CodeAt.kept {w w' : World} {a : Option Addr} {len B : Nat} (h : CodeAt w a len B) (hb : Below B w w') : CodeAt w' a len B := fun j hj => by
  obtain ⟨b, o, z, h1, h2, h3, h4, h5⟩ := h j hj
  exact ⟨b, o, z, h1, h2, h3, h4, by rw [hb.cell (p := ⟨b, o + j, none⟩) h2]; exact h5⟩

/-- A cursor at block g over bytes in blocks below B. -/
def Cur (w : World) (g B : Nat) : Prop := B ≤ g ∧ ∃ (a : Option Addr) (len cap i : Nat) (h : Int), len ≤ 4096 ∧ i ≤ len ∧ CodeAt w a len B ∧ w.heap[g]? = some (.cells #[.slice a len cap, .int .i64 i, .int .i64 h] 136 (0, 0))

theorem Cur.lt {w : World} {g B : Nat} (h : Cur w g B) : g < w.heap.size := by
  obtain ⟨_, a, len, cap, i, hh, _, _, _, hg⟩ := h
  exact (Array.getElem?_eq_some_iff.1 hg).1

/-- Whatever leaves the cursor's block and what lies below B as it is keeps the cursor. -/
theorem Cur.kept {w w' : World} {g B : Nat} (h : Cur w g B) (hb : Below (g + 1) w w') : Cur w' g B := by
  obtain ⟨h0, a, len, cap, i, hh, h1, h2, h3, hg⟩ := h
  exact ⟨h0, a, len, cap, i, hh, h1, h2, h3.kept (hb.mono (by omega)), by rw [hb.block g (by omega)]; exact hg⟩


theorem Cur.drewN {w : World} {g B : Nat} (h : Cur w g B) (q : Nat) : Cur (w.drewN q) g B := h.kept ⟨rfl, rfl, rfl, Nat.le_refl _, fun _ _ => rfl⟩
theorem Cur.drew {w : World} {g B : Nat} (h : Cur w g B) : Cur w.drew g B := h.kept ⟨rfl, rfl, rfl, Nat.le_refl _, fun _ _ => rfl⟩
theorem Cur.alloc {w : World} {g B : Nat} (h : Cur w g B) (o : Obj) : Cur (w.alloc o) g B := h.kept ((Joins.below_alloc1 w o).mono h.lt)
theorem Cur.set {w : World} {g B : Nat} (h : Cur w g B) (p : Addr) (v : Value) (hp : g < p.block) : Cur (w.setCell p v) g B :=
  h.kept ⟨rfl, rfl, rfl, by simp, fun k hk => Below.heap_setCell w p v k (by omega)⟩
theorem Cur.below {w w' : World} {g B : Nat} (h : Cur w g B) (hb : Below w.heap.size w w') : Cur w' g B := h.kept (hb.mono h.lt)

theorem Cur.new (w : World) (a : Option Addr) (len cap : Nat) (H : Int) (hl : len ≤ 4096) (hc : CodeAt w a len w.heap.size) :
    Cur (w.alloc (.cells #[.slice a len cap, .int .i64 0, .int .i64 H] 136)) w.heap.size w.heap.size :=
  ⟨Nat.le_refl _, a, len, cap, 0, H, hl, Nat.zero_le _, hc.kept (Joins.below_alloc1 w _), heap_alloc_new w _⟩

end Go.Proofs.YtfmeinkhdgbgjaaGreat
/- Texts out of rows of bytes. -/
namespace Go.Proofs.YtfmeinkhdgbgjaaGreat
open Go.RowKit
set_option maxRecDepth 100000
set_option linter.unusedSimpArgs false
set_option linter.unusedVariables false

/-- A text out of numbers. -/
def strOf (l : List Int) : ByteArray := ⟨(l.map fun z => UInt8.ofNat z.toNat).toArray⟩
theorem strOf_size (l : List Int) : (strOf l).size = l.length := by simp [strOf, ByteArray.size]
theorem u8_of {z : Int} (h0 : 0 ≤ z) (h1 : z ≤ 255) : ((UInt8.ofNat z.toNat).toNat : Int) = z := by simp [UInt8.toNat_ofNat']; omega

theorem row_string {W : World} {base n : Nat} {v : Value} {l : List Int} (hown : W.ownsRow base 5 1 v n (l.map (Value.int .u8))) (hx : ∀ x ∈ l, 0 ≤ x ∧ x ≤ 255) :
    (convert 22 9 v).run Tryz.prog W = .ok (.string (strOf l)) W := by
  obtain ⟨h1, h2⟩ := hown
  rcases h2 with ⟨rfl, rfl⟩ | ⟨b, cap, cur, rfl, e2, e3, e4, e5, e6, e7⟩
  · have : l = [] := by simpa using h1
    subst this
    simpa [strOf] using Lib.run_convert_nil_bytes (P := Tryz.prog) W 22 9 5 0 Tryz.underlying22 Tryz.underlying5 Tryz.underlying9
  · have hn : (l.map fun z => UInt8.ofNat z.toNat).length = n := by simp at h1 ⊢; omega
    have := run_convert_bytes_back (P := Tryz.prog) W 22 9 5 ⟨b, 0, none⟩ cap (l.map fun z => UInt8.ofNat z.toNat) Tryz.underlying22 Tryz.underlying5 Tryz.underlying9 (fun j hjl => by
      have hj : j < l.length := by simpa using hjl
      have h6 : W.cell? ((⟨b, 0, none⟩ : Addr).add j) = cur[j]? := by by_cases hj0 : j = 0 <;> simp [Addr.add, World.cell?, e3, hj0]
      have h7 : cur.toList[j]? = some (Value.int .u8 l[j]) := by
        have h8 : (cur.toList.take n)[j]? = (l.map (Value.int .u8))[j]? := by rw [← e7]; simp
        rw [List.getElem?_take_of_lt (by simp at h1; omega)] at h8
        rw [h8]; simp [hj]
      rw [h6, ← Array.getElem?_toList, h7]
      have := hx l[j] (List.getElem_mem hj)
      rw [List.getElem_map, u8_of this.1 this.2])
    rw [hn] at this
    exact this

theorem ownsRow_one (w : World) (e : TypeId) (v : Value) : (w.alloc (.cells #[v] e)).ownsRow w.heap.size e 1 (.slice (some ⟨w.heap.size, 0, none⟩) 1 1) 1 [v] :=
  ⟨by simp, .inr ⟨w.heap.size, 1, #[v], rfl, Nat.le_refl _, World.alloc_heap_new w _, Nat.le_refl _, by simp [maxLen], by simp, by simp⟩⟩
end Go.Proofs.YtfmeinkhdgbgjaaGreat
/- The library's strings.Clone at this program: it hands back the same bytes. Laid off the shelf's own contract. -/
namespace Go.Proofs.YtfmeinkhdgbgjaaGreat
open Go.Shelf Go.RowKit
def cloneRen : Go.Shelf.Ren := ⟨fun | 316 => 252 | n => n, fun | 0 => 0 | 3 => 3 | 4 => 4 | 9 => 9 | 37 => 22 | 127 => 306 | 5 => 5 | n => n, fun | n => n⟩
theorem cloneLays : Go.Proofs.LaysM.n316 Tryz.prog cloneRen := {
  mixed := by kernel_rfl
  f316 := Tryz.func252.trans (congrArg some (by kernel_rfl))
  t0 := Tryz.underlying0
  a0 := Tryz.isAgg0
  z0 := Tryz.sizeOf0
  v0 := Tryz.zeroValue0
  t3 := Tryz.underlying3
  a3 := Tryz.isAgg3
  z3 := Tryz.sizeOf3
  v3 := Tryz.zeroValue3
  t4 := Tryz.underlying4
  a4 := Tryz.isAgg4
  z4 := Tryz.sizeOf4
  v4 := Tryz.zeroValue4
  t9 := Tryz.underlying9
  a9 := Tryz.isAgg9
  z9 := Tryz.sizeOf9
  v9 := Tryz.zeroValue9
  t37 := Tryz.underlying22
  a37 := Tryz.isAgg22
  z37 := Tryz.sizeOf22
  v37 := Tryz.zeroValue22
  t127 := Tryz.underlying306
  a127 := Tryz.isAgg306
  z127 := Tryz.sizeOf306
  v127 := Tryz.zeroValue306
  t5 := Tryz.underlying5
  a5 := Tryz.isAgg5
  z5 := Tryz.sizeOf5
  v5 := Tryz.zeroValue5
  i0 := by kernel_rfl
  i3 := by kernel_rfl
  i4 := by kernel_rfl
  i9 := by kernel_rfl
  i37 := by kernel_rfl
  i127 := by kernel_rfl
  i5 := by kernel_rfl }
theorem clone0 (s : ByteArray) (w : World) (hlim : s.size ≤ 281474976710656) :
    Calls Tryz.prog 252 #[.string s] w fun e w' => e = .returned (.string s) ∧ Below w.heap.size w w' := Any.stringslite_Clone cloneLays s w hlim

theorem clone (s : ByteArray) (w : World) (hlim : s.size ≤ 281474976710656) :
    Calls Tryz.prog 192 #[.string s] w fun e w' => e = .returned (.string s) ∧ Below w.heap.size w w' := by
  go_enter Tryz.func192, Tryz.ntmps192
  go_wp2_with fail
  refine (clone0 s _ hlim).mono ?_; rintro x w1 ⟨rfl, hb1⟩
  go_wp2_with fail
  go_ret
  exact ⟨rfl, hb1⟩
end Go.Proofs.YtfmeinkhdgbgjaaGreat
/- Laws on rows of bytes: make, copy from a string that may be too long, and what string(..) of such a row reads. -/
namespace Go.Proofs.YtfmeinkhdgbgjaaGreat
open Go.RowKit
set_option maxRecDepth 100000
set_option linter.unusedSimpArgs false
set_option linter.unusedVariables false

theorem extract_size (s : ByteArray) (n : Nat) (h : n ≤ s.size) : (s.extract 0 n).size = n := by
  rw [ByteArray.size_extract]; omega

/-- 'copy(dst, s)' from a string: as many of its first bytes as dst is long. -/
theorem copy_cut (w : World) (g o dLen dCap n : Nat) (s : ByteArray) (cur : Array Value) (t : TypeId)
    (hg : w.heap[g]? = some (.cells cur t (0, 0))) (hn : Nat.min s.size dLen = n) (hfit : o + n ≤ cur.size) :
    (Builtin.copy_ #[22, 9] 3 #[.slice (some ⟨g, o, none⟩) dLen dCap, .string s]).run Tryz.prog w =
      .ok (goInt n) (w.setRow g (cur.toList.take o ++ Lib.byteCells (s.extract 0 n).data.toList ++ cur.toList.drop (o + n)).toArray) := by
  have hns : n ≤ s.size := by rw [← hn]; exact Nat.min_le_left _ _
  have hnd : n ≤ dLen := by rw [← hn]; exact Nat.min_le_right _ _
  have hsz := extract_size s n hns
  have h := Lib.run_copy_row_string (P := Tryz.prog) w 22 9 3 5 g o dLen dCap (s.extract 0 n) cur t Tryz.underlying22 (by kernel_rfl) hg (by omega) (by omega)
  rw [hsz] at h
  rw [← h]
  have e1 : (s.extract 0 n).extract 0 n = s.extract 0 n := by rw [ByteArray.extract_extract]; simp
  have hm : Nat.min n dLen = n := Nat.min_eq_left hnd
  simp only [Builtin.copy_, Builtin.lenOf, Builtin.firstCells, hsz]
  simp [run_underlying Tryz.underlying22, hn, hm, e1]
  rw [show min n (min s.size (min dLen n)) = n by omega]

/-- What a row's cells say as bytes. -/
theorem bytes_row {W : World} {g : Nat} {cur : Array Value} {t : TypeId} {fr : Nat × Nat} (hg : W.heap[g]? = some (.cells cur t fr)) (B : ByteArray) (hp : cur.toList.take B.size = Lib.byteCells B.data.toList) : Lib.Bytes W g 0 B := fun i hi => by
  rw [Nat.zero_add]
  have h1 : W.cell? ⟨g, i, none⟩ = cur[i]? := by simp [World.cell?, hg]
  rw [h1, ← Array.getElem?_toList]
  have h2 : cur.toList[i]? = (cur.toList.take B.size)[i]? := by rw [List.getElem?_take_of_lt hi]
  have h3 : i < B.data.toList.length := by simpa using hi
  rw [h2, hp, Lib.byteCells, List.getElem?_map, List.getElem?_eq_getElem h3]
  rfl

theorem make_bytes (R : Nat) (h : R ≤ 281474976710656) : ∃ M : Array Value, M.size = R ∧ ∀ X : World, (Instr.makeSlice 22 (.int .i64 (R : Int)) (.int .i64 (R : Int))).run Tryz.prog X = .ok (.slice (some ⟨X.heap.size, 0, none⟩) R R) (X.alloc (.cells M 5)) := by
  obtain ⟨i0, hi, hz0, hz1, hz2⟩ := info_parts (P := Tryz.prog) (e := 5) (z := .int .u8 0) (size := 1) (bytes := 1) (by kernel_rfl)
  refine ⟨madeCells (Value.int .u8 0).cells (R * 1), by rw [size_madeCells, Nat.mul_one], fun X => ?_⟩
  have h := run_make (P := Tryz.prog) X 22 5 i0 (.int .u8 0) Tryz.underlying22 hi hz0 .i64 .i64 (R : Int) (R : Int) (by omega) (by omega) (by rw [hz2]; omega) (by omega)
  rw [hz1] at h
  simpa using h

theorem setRow_below (W : World) (g : Nat) (cs : Array Value) : Below g W (W.setRow g cs) ∧ (W.setRow g cs).heap.size = W.heap.size := by
  refine ⟨⟨rfl, rfl, rfl, by simp [World.setRow], fun k hk => setRow_other _ _ _ _ (by omega)⟩, by simp [World.setRow]⟩

/-- make, copy, copy: the three steps of a push, and the bytes that the row then holds. -/
theorem push_rows (W : World) (R : Nat) (b s : ByteArray) (hb : b.size < R) (hR : R ≤ 2000) (n : Nat) (hn : Nat.min s.size (R - b.size) = n) : ∃ W1 W2 W3 : World,
    (Instr.makeSlice 22 (.int .i64 (R : Int)) (.int .i64 (R : Int))).run Tryz.prog W = .ok (.slice (some ⟨W.heap.size, 0, none⟩) R R) W1 ∧
    (Builtin.copy_ #[22, 9] 3 #[.slice (some ⟨W.heap.size, 0, none⟩) R R, .string b]).run Tryz.prog W1 = .ok (.int .i64 (b.size : Int)) W2 ∧
    (Builtin.copy_ #[22, 9] 3 #[.slice (some ⟨W.heap.size, b.size, none⟩) (R - b.size) (R - b.size), .string s]).run Tryz.prog W2 = .ok (.int .i64 (n : Int)) W3 ∧
    Below W.heap.size W W1 ∧ Below W.heap.size W W2 ∧ Below W.heap.size W W3 ∧ W3.heap.size = W.heap.size + 1 ∧ Lib.Bytes W3 W.heap.size 0 (b ++ s.extract 0 n) := by
  obtain ⟨M, hM, hmk⟩ := make_bytes R (by omega)
  have hns : n ≤ s.size := by rw [← hn]; exact Nat.min_le_left _ _
  have hnd : n ≤ R - b.size := by rw [← hn]; exact Nat.min_le_right _ _
  have hg1 : (W.alloc (.cells M 5)).heap[W.heap.size]? = some (.cells M 5 (0, 0)) := heap_alloc_new W _
  have hc1 := copy_cut (W.alloc (.cells M 5)) W.heap.size 0 R R b.size b M 5 hg1 (Nat.min_eq_left (by omega)) (by omega)
  have hY1 : ∃ Y, Y = (M.toList.take 0 ++ Lib.byteCells (b.extract 0 b.size).data.toList ++ M.toList.drop (0 + b.size)).toArray := ⟨_, rfl⟩
  obtain ⟨Y, hY⟩ := hY1
  rw [← hY] at hc1
  have hbe : b.extract 0 b.size = b := by simp
  have hYl : Y.toList = Lib.byteCells b.data.toList ++ M.toList.drop b.size := by rw [hY, hbe]; simp
  have hYs : Y.size = R := by
    have h5 : Y.toList.length = b.size + (R - b.size) := by
      rw [hYl, List.length_append, Lib.byteCells_length, List.length_drop]
      simp [hM]
    have h6 : Y.toList.length = Y.size := by simp
    omega
  have hg2 : ((W.alloc (.cells M 5)).setRow W.heap.size Y).heap[W.heap.size]? = some (.cells Y 5 (0, 0)) := setRow_heap _ _ M _ _ _ hg1
  have hc2 := copy_cut ((W.alloc (.cells M 5)).setRow W.heap.size Y) W.heap.size b.size (R - b.size) (R - b.size) n s Y 5 hg2 hn (by omega)
  obtain ⟨V, hV⟩ : ∃ V, V = (Y.toList.take b.size ++ Lib.byteCells (s.extract 0 n).data.toList ++ Y.toList.drop (b.size + n)).toArray := ⟨_, rfl⟩
  rw [← hV] at hc2
  have hg3 : (((W.alloc (.cells M 5)).setRow W.heap.size Y).setRow W.heap.size V).heap[W.heap.size]? = some (.cells V 5 (0, 0)) := setRow_heap _ _ Y _ _ _ hg2
  have b1 : Below W.heap.size W (W.alloc (.cells M 5)) := (Below.refl _ W).alloc (Nat.le_refl _) _
  have b2 := b1.trans (setRow_below (W.alloc (.cells M 5)) W.heap.size Y).1
  have b3 := b2.trans (setRow_below ((W.alloc (.cells M 5)).setRow W.heap.size Y) W.heap.size V).1
  refine ⟨_, _, _, hmk W, hc1, hc2, b1, b2, b3, ?_, ?_⟩
  · rw [(setRow_below _ _ _).2, (setRow_below _ _ _).2]; simp
  · refine bytes_row hg3 _ ?_
    have hbl : (Lib.byteCells b.data.toList).length = b.size := by rw [Lib.byteCells_length]; simp
    have htk : Y.toList.take b.size = Lib.byteCells b.data.toList := by rw [hYl, List.take_left' hbl]
    have hal : (b ++ s.extract 0 n).data.toList = b.data.toList ++ (s.extract 0 n).data.toList := by simp
    have hsz : (b ++ s.extract 0 n).size = b.size + n := by rw [ByteArray.size_append, extract_size s n hns]
    rw [hV, htk, hsz, hal, Lib.byteCells_append, List.toList_toArray, List.take_left']
    rw [List.length_append, hbl, Lib.byteCells_length]
    have := extract_size s n hns
    have h4 : (s.extract 0 n).data.toList.length = (s.extract 0 n).size := by simp
    omega

theorem push_full (W : World) (R : Nat) (b s : ByteArray) (hb : b.size = R) (hR : R ≤ 2000) : ∃ W1 W2 : World,
    (Instr.makeSlice 22 (.int .i64 (R : Int)) (.int .i64 (R : Int))).run Tryz.prog W = .ok (.slice (some ⟨W.heap.size, 0, none⟩) R R) W1 ∧
    (Builtin.copy_ #[22, 9] 3 #[.slice (some ⟨W.heap.size, 0, none⟩) R R, .string b]).run Tryz.prog W1 = .ok (.int .i64 (b.size : Int)) W2 ∧
    (Builtin.copy_ #[22, 9] 3 #[.slice (some ⟨W.heap.size, 0, none⟩) 0 0, .string s]).run Tryz.prog W2 = .ok (.int .i64 0) W2 ∧
    Below W.heap.size W W1 ∧ Below W.heap.size W W2 ∧ W2.heap.size = W.heap.size + 1 ∧ Lib.Bytes W2 W.heap.size 0 b := by
  obtain ⟨M, hM, hmk⟩ := make_bytes R (by omega)
  have hg1 : (W.alloc (.cells M 5)).heap[W.heap.size]? = some (.cells M 5 (0, 0)) := heap_alloc_new W _
  have hc1 := copy_cut (W.alloc (.cells M 5)) W.heap.size 0 R R b.size b M 5 hg1 (Nat.min_eq_left (by omega)) (by omega)
  obtain ⟨Y, hY⟩ : ∃ Y, Y = (M.toList.take 0 ++ Lib.byteCells (b.extract 0 b.size).data.toList ++ M.toList.drop (0 + b.size)).toArray := ⟨_, rfl⟩
  rw [← hY] at hc1
  have hbe : b.extract 0 b.size = b := by simp
  have hYl : Y.toList = Lib.byteCells b.data.toList ++ M.toList.drop b.size := by rw [hY, hbe]; simp
  have hg2 : ((W.alloc (.cells M 5)).setRow W.heap.size Y).heap[W.heap.size]? = some (.cells Y 5 (0, 0)) := setRow_heap _ _ M _ _ _ hg1
  have hc2 := copy_cut ((W.alloc (.cells M 5)).setRow W.heap.size Y) W.heap.size 0 0 0 0 s Y 5 hg2 (Nat.min_zero _) (by omega)
  have hsame : ((W.alloc (.cells M 5)).setRow W.heap.size Y).setRow W.heap.size (Y.toList.take 0 ++ Lib.byteCells (s.extract 0 0).data.toList ++ Y.toList.drop (0 + 0)).toArray = (W.alloc (.cells M 5)).setRow W.heap.size Y := by
    have e0 : (Y.toList.take 0 ++ Lib.byteCells (s.extract 0 0).data.toList ++ Y.toList.drop (0 + 0)).toArray = Y := by simp [Lib.byteCells]
    rw [e0]
    unfold World.setRow
    congr 1
    apply Array.ext_getElem?
    intro i
    simp only [Array.getElem?_modify]
    split
    · cases h : (W.alloc (.cells M 5)).heap[i]? with
      | none => simp
      | some o => cases o <;> simp
    · rfl
  rw [hsame] at hc2
  have b1 : Below W.heap.size W (W.alloc (.cells M 5)) := (Below.refl _ W).alloc (Nat.le_refl _) _
  have b2 := b1.trans (setRow_below (W.alloc (.cells M 5)) W.heap.size Y).1
  refine ⟨_, _, hmk W, hc1, hc2, b1, b2, ?_, ?_⟩
  · rw [(setRow_below _ _ _).2]; simp
  · refine bytes_row hg2 _ ?_
    have hbl : (Lib.byteCells b.data.toList).length = b.size := by rw [Lib.byteCells_length]; simp
    rw [hYl, List.take_left' hbl]
end Go.Proofs.YtfmeinkhdgbgjaaGreat
/- A rule for a region whose operations come in whatever order: what holds of the operations that have come up, of the frame and of the world, is kept by each operation. -/
namespace Go.Proofs.YtfmeinkhdgbgjaaGreat
open Go.RowKit
set_option maxRecDepth 100000
set_option linter.unusedSimpArgs false
set_option linter.unusedVariables false

section
variable {P : Program} {ops : Array Oper} {Q : Exit → Act → World → Prop} {md : Region.Mode}

/-- For what operation i waits. -/
def waitsFor (md : Region.Mode) (ops : Array Oper) (i : Nat) : List Nat :=
  match ops[i]? with
  | none => []
  | some o => (o.after.toList.filter (Region.binds md)).map (·.on)

theorem ready_waits {i j : Nat} {l : Array Bool} (h : i ∈ Region.ready md ops l) (hj : (waitsFor md ops i).contains j = true) : l.getD j false = true := by
  obtain ⟨_, o, ho, hall⟩ := mem_ready.1 h
  simp only [waitsFor, ho, List.contains_iff_mem, List.mem_map, List.mem_filter, Array.mem_toList_iff] at hj
  obtain ⟨e, ⟨he, hb⟩, rfl⟩ := hj
  exact hall e he hb

theorem ready_new {i : Nat} {l : Array Bool} (h : i ∈ Region.ready md ops l) (hl : l.size = ops.size) : l.getD i false = false ∧ i < l.size := by
  obtain ⟨h0, o, ho, _⟩ := mem_ready.1 h
  have hi : i < l.size := hl ▸ (Array.getElem?_eq_some_iff.1 ho).1
  simp [hi] at h0 ⊢
  exact h0

theorem ready_lt {i : Nat} {l : Array Bool} (h : i ∈ Region.ready md ops l) : i < ops.size := by
  obtain ⟨_, o, ho, _⟩ := mem_ready.1 h
  exact (Array.getElem?_eq_some_iff.1 ho).1

theorem set_is {i : Nat} {l : Array Bool} (h : i < l.size) : (l.setIfInBounds i true).getD i false = true := by simp [h]

/-- The last one has not come up where another one may still come up: it waits for all. -/
theorem not_last {i n : Nat} {l : Array Bool} (h : i ∈ Region.ready md ops l) (hl : l.size = ops.size) (hn : l.getD n false = true → ∀ j, j < n → l.getD j false = true) (hi : i < n) : l.getD n false = false := by
  cases hh : l.getD n false
  · rfl
  · have := hn hh i hi
    rw [(ready_new h hl).1] at this
    cases this

theorem last_kept {i n : Nat} {l : Array Bool} (h : i ∈ Region.ready md ops l) (hl : l.size = ops.size) (hn : l.getD n false = true → ∀ j, j < n → l.getD j false = true) (hi : i < n) : (l.setIfInBounds i true).getD n false = true → ∀ j, j < n → (l.setIfInBounds i true).getD j false = true := fun hh => by
  rw [getD_set_ne false (by omega), not_last h hl hn hi] at hh
  cases hh

theorem last_comes {n : Nat} {l : Array Bool} (h : n ∈ Region.ready md ops l) (hw : (List.range n).all (fun j => (waitsFor md ops n).contains j) = true) : (l.setIfInBounds n true).getD n false = true → ∀ j, j < n → (l.setIfInBounds n true).getD j false = true := fun _ j hj =>
  getD_set_true (ready_waits h (List.all_eq_true.1 hw j (List.mem_range.2 hj)))

theorem none_left {l : Array Bool} (hl : l.size = ops.size) (h : l.toList.count false = 0) : Region.ready md ops l = [] := by
  apply List.eq_nil_iff_forall_not_mem.2
  intro i hi
  obtain ⟨h1, h2⟩ := ready_new hi hl
  simp [h2] at h1
  have := List.count_eq_zero.1 h
  exact this (by rw [← h1]; exact Array.getElem_mem_toList h2)

theorem wpAny_inv (I : Array Bool → Act → World → Prop)
    (hstep : ∀ l a w i, I l a w → l.size = ops.size → i ∈ Region.ready md ops l → wpOp P ops Q i (fun a' w' => I (l.setIfInBounds i true) a' w') a w)
    (hend : ∀ l a w, I l a w → l.size = ops.size → Region.ready md ops l = [] → Q .normal a w) :
    ∀ (fuel : Nat) (l : Array Bool) (a : Act) (w : World), l.size = ops.size → l.toList.count false ≤ fuel → I l a w → wpAny P md ops Q fuel l a w
  | 0, l, a, w, hl, hc, hI => by
    have h0 := none_left (md := md) hl (Nat.le_zero.1 hc)
    exact ⟨h0, hend l a w hI hl h0⟩
  | fuel + 1, l, a, w, hl, hc, hI => by
    refine ⟨hend l a w hI hl, fun i hi => wpOp_mono (fun a' w' h' => ?_) (hstep l a w i hI hl hi)⟩
    obtain ⟨h1, h2⟩ := ready_new hi hl
    simp [h2] at h1
    refine wpAny_inv I hstep hend fuel _ a' w' (by simpa using hl) ?_ h'
    have h3 : i < l.toList.length := by simpa using h2
    rw [Array.toList_setIfInBounds, List.count_set h3]
    simp [h1] at hc ⊢
    omega

/-- Where the waiting goes only backwards and nobody is ready, all have come up. -/
theorem all_listed {l : Array Bool} (hl : l.size = ops.size) (hw : (List.range ops.size).all (fun i => (waitsFor md ops i).all (· < i)) = true) (h : Region.ready md ops l = []) (i : Nat) (hi : i < ops.size) : l.getD i false = true := by
  induction i using Nat.strongRecOn with
  | _ i ih =>
    cases hh : l.getD i false
    case true => rfl
    exfalso
    have : i ∈ Region.ready md ops l := by
      rw [mem_ready]
      refine ⟨?_, ops[i], by simp [hi], fun e he hb => ?_⟩
      · have hi' : i < l.size := by omega
        simp [hi'] at hh ⊢; exact hh
      · have h1 := List.all_eq_true.1 (List.all_eq_true.1 hw i (List.mem_range.2 hi)) e.on (by
          simp only [waitsFor, Array.getElem?_eq_getElem hi, List.mem_map, List.mem_filter, Array.mem_toList_iff]
          exact ⟨e, ⟨he, hb⟩, rfl⟩)
        have h2 : e.on < i := by simpa using h1
        exact ih e.on h2 (by omega)
    rw [h] at this
    cases this
end
end Go.Proofs.YtfmeinkhdgbgjaaGreat
/- A map whose keys are pairs of numbers: what is looked up in it, what is written into it, in words of a function from pairs to numbers. -/
namespace Go.Proofs.YtfmeinkhdgbgjaaGreat
open Go.RowKit
set_option maxRecDepth 100000
set_option linter.unusedSimpArgs false
set_option linter.unusedVariables false

abbrev mvKey (s e : Int) : Value := .agg #[.int .i64 s, .int .i64 e]
def MapHas (w : World) (g : Nat) (f : Int → Int → Option Int) : Prop :=
  ∃ es clock, w.heap[g]? = some (.map es clock) ∧ (∀ x ∈ es.toList, ∃ s e v, x.key = mvKey s e ∧ x.val = .int .i64 v ∧ f s e = some v) ∧ (∀ s e v, f s e = some v → ∃ x ∈ es.toList, x.key = mvKey s e)

theorem mv_equal (s e a b : Int) (w : World) : (Op.equal 252 (mvKey s e) (mvKey a b)).run Tryz.prog w = .ok (decide (s = a ∧ e = b)) w := by
  unfold Op.equal Op.maxDepth
  rw [run_equalIn_agg (P := Tryz.prog) w 9999 252 _ _ (by kernel_rfl) (by kernel_rfl)]
  have h1 : (Tryz.prog.fieldsOf 252).toList = [⟨ "state", 2, 0, false, "", "loop.example/g00296/impl", 0⟩, ⟨ "event", 2, 1, false, "", "loop.example/g00296/impl", 8⟩] := by kernel_rfl
  rw [h1]
  have p0 : ∀ u v : Int, (part 2 #[.int .i64 u, .int .i64 v] 0).run Tryz.prog w = .ok (.int .i64 u) w := fun u v => by kernel_rfl
  have p1 : ∀ u v : Int, (part 2 #[.int .i64 u, .int .i64 v] 1).run Tryz.prog w = .ok (.int .i64 v) w := fun u v => by kernel_rfl
  simp [Op.eqFields, p0, p1, run_equalIn_int (P := Tryz.prog) w 9998 2 .i64 .i64 _ _ (by kernel_rfl)]
  by_cases h : s = a <;> by_cases h' : e = b <;> simp [h, h']
theorem mv_check (c : Bool) (s e : Int) (w : World) : (Instr.checkKey c 10000 252 (mvKey s e)).run Tryz.prog w = .ok () w := by
  kernel_rfl
/-- Found: the first entry with this key; where all with it hold one number, that one. -/
theorem mv_find (s e : Int) (w : World) (f : Int → Int → Option Int) : ∀ (es : List MapEntry) (i : Nat), (∀ x ∈ es, ∃ s e v, x.key = mvKey s e ∧ x.val = .int .i64 v ∧ f s e = some v) →
    ((∃ x ∈ es, x.key = mvKey s e) → ∃ j v, f s e = some v ∧ (Instr.findAsking 252 (mvKey s e) es i).run Tryz.prog w = .ok (some (j, .int .i64 v)) w) ∧ ((¬ ∃ x ∈ es, x.key = mvKey s e) → (Instr.findAsking 252 (mvKey s e) es i).run Tryz.prog w = .ok none w)
  | [], i, _ => ⟨fun ⟨x, hx, _⟩ => (by cases hx), fun _ => (by simp [Instr.findAsking])⟩
  | x :: es, i, h => by
    obtain ⟨a, b, v, hk, hv, hf⟩ := h x (by simp)
    have ih := mv_find s e w f es (i + 1) (fun y hy => h y (by simp [hy]))
    have hq := mv_equal s e a b w
    by_cases hs : s = a ∧ e = b
    · obtain ⟨rfl, rfl⟩ := hs
      simp at hq
      refine ⟨fun _ => ⟨i, v, hf, ?_⟩, fun hn => absurd ⟨x, by simp, hk⟩ hn⟩
      simp [Instr.findAsking, hk, hv, hq]
    · have hd : decide (s = a ∧ e = b) = false := by simpa using hs
      rw [hd] at hq
      have hstep : (Instr.findAsking 252 (mvKey s e) (x :: es) i).run Tryz.prog w = (Instr.findAsking 252 (mvKey s e) es (i + 1)).run Tryz.prog w := by simp [Instr.findAsking, hk, hq]
      rw [hstep]
      have hne : x.key ≠ mvKey s e := by
        rw [hk]; intro hh; apply hs
        simp [mvKey] at hh
        exact ⟨hh.1.symm, hh.2.symm⟩
      constructor
      · rintro ⟨y, hy, hyk⟩
        rcases List.mem_cons.1 hy with rfl | hy
        · exact absurd hyk hne
        · exact ih.1 ⟨y, hy, hyk⟩
      · intro hn
        exact ih.2 (fun ⟨y, hy, hyk⟩ => hn ⟨y, by simp [hy], hyk⟩)
theorem mv_findKey (s e : Int) (w : World) (es : List MapEntry) : (Instr.findKey 252 (mvKey s e) es).run Tryz.prog w = (Instr.findAsking 252 (mvKey s e) es 0).run Tryz.prog w := by
  unfold Instr.findKey
  have hu : (underlying 252).run Tryz.prog w = .ok (.struct (Tryz.prog.fieldsOf 252)) w := by kernel_rfl
  cases es with
  | nil => simp [hu, Instr.findNow, Instr.findAsking]
  | cons x es =>
    have hn : Instr.findNow (.struct (Tryz.prog.fieldsOf 252)) (mvKey s e) (x :: es) 0 = none := by
      simp [Instr.findNow, Instr.sameNow]
    simp [hu, hn]
theorem mv_lookup {w : World} {g : Nat} {f : Int → Int → Option Int} (h : MapHas w g f) (s e : Int) : (Instr.lookup 179 (.map (some g)) (mvKey s e) true).run Tryz.prog w = .ok (.tuple #[.int .i64 ((f s e).getD 0), .bool (f s e).isSome]) w := by
  obtain ⟨es, clock, hb, h1, h2⟩ := h
  have hu : (underlying 179).run Tryz.prog w = .ok (.map 252 2) w := by kernel_rfl
  have hg : (getObj g).run Tryz.prog w = .ok (.map es clock) w := MapKept.run_getObj_map hb
  have hz : (zeroValue 2).run Tryz.prog w = .ok (.int .i64 0) w := by kernel_rfl
  have hf := mv_find s e w f es.toList 0 h1
  have hK := mv_findKey s e w es.toList
  by_cases hex : ∃ x ∈ es.toList, x.key = mvKey s e
  · obtain ⟨j, v, hv, hr⟩ := hf.1 hex
    have hK2 : (Instr.findKey 252 (mvKey s e) es.toList).run Tryz.prog w = .ok (some (j, .int .i64 v)) w := by
      rw [hK]; exact hr
    simp [Instr.lookup, hu, hg, mv_check, hK2, hv]
  · have hr := hf.2 hex
    have hv : f s e = none := by
      cases hh : f s e with
      | none => rfl
      | some v => exact absurd (h2 s e v hh) hex
    have hK2 : (Instr.findKey 252 (mvKey s e) es.toList).run Tryz.prog w = .ok none w := by
      rw [hK]; exact hr
    simp [Instr.lookup, hu, hg, mv_check, hK2, hv, hz]
def fPut (f : Int → Int → Option Int) (s e v : Int) : Int → Int → Option Int := fun a b => if a = s ∧ b = e then some v else f a b
theorem mv_update {w : World} {g : Nat} {f : Int → Int → Option Int} (h : MapHas w g f) (s e v : Int) (hn : f s e = none) : ∃ w', (Instr.mapUpdate 179 (.map (some g)) (mvKey s e) (.int .i64 v)).run Tryz.prog w = .ok () w' ∧ MapHas w' g (fPut f s e v) ∧ w.grownBy w' (some g) := by
  obtain ⟨es, clock, hb, h1, h2⟩ := h
  have hu : (underlying 179).run Tryz.prog w = .ok (.map 252 2) w := by kernel_rfl
  have hg : (getObj g).run Tryz.prog w = .ok (.map es clock) w := MapKept.run_getObj_map hb
  have hf := mv_find s e w f es.toList 0 h1
  have hK := mv_findKey s e w es.toList
  have hex : ¬ ∃ x ∈ es.toList, x.key = mvKey s e := by
    rintro ⟨x, hx, hxk⟩
    obtain ⟨a, b, v', hk', _, hf'⟩ := h1 x hx
    rw [hk'] at hxk
    simp [mvKey] at hxk
    rw [hxk.1, hxk.2, hn] at hf'
    cases hf'
  have hK2 : (Instr.findKey 252 (mvKey s e) es.toList).run Tryz.prog w = .ok none w := by
    rw [hK]; exact hf.2 hex
  refine ⟨ChangeMaps.setBlock w g (.map (es.push ⟨mvKey s e, .int .i64 v, clock⟩) (clock + 1)), ?_, ?_, ?_⟩
  · have hset : (setObj g (.map (es.push ⟨mvKey s e, .int .i64 v, clock⟩) (clock + 1))).run Tryz.prog w = .ok () (ChangeMaps.setBlock w g (.map (es.push ⟨mvKey s e, .int .i64 v, clock⟩) (clock + 1))) := by
      exact MapKept.run_setObj_map _ hb
    simp [Instr.mapUpdate, hu, hg, mv_check, hK2, hset]
  · refine ⟨_, _, ChangeMaps.heap_setBlock_same hb _, ?_, ?_⟩
    · intro x hx
      simp at hx
      rcases hx with hx | rfl
      · obtain ⟨a, b, v', hk', hv', hf'⟩ := h1 x (by simpa using hx)
        refine ⟨a, b, v', hk', hv', ?_⟩
        unfold fPut
        split
        · rename_i hab
          rw [hab.1, hab.2, hn] at hf'
          cases hf'
        · exact hf'
      · exact ⟨s, e, v, rfl, rfl, by simp [fPut]⟩
    · intro a b v' hv'
      unfold fPut at hv'
      split at hv'
      · rename_i hab
        obtain ⟨rfl, rfl⟩ := hab
        exact ⟨⟨mvKey a b, .int .i64 v, clock⟩, by simp, rfl⟩
      · obtain ⟨x, hx, hxk⟩ := h2 a b v' hv'
        exact ⟨x, by simp at hx ⊢; exact Or.inl hx, hxk⟩
  · exact ⟨rfl, rfl, rfl, by simp [ChangeMaps.setBlock], fun i _ hi => ChangeMaps.heap_setBlock_other hb _ (fun e => hi (by rw [e]))⟩
theorem mv_clear {w : World} {g : Nat} {f : Int → Int → Option Int} (h : MapHas w g f) (t : TypeId) : ∃ w', (Builtin.clear_ #[179] t #[.map (some g)]).run Tryz.prog w = .ok (.tuple #[]) w' ∧ MapHas w' g (fun _ _ => none) ∧ w.grownBy w' (some g) := by
  obtain ⟨es, clock, hb, h1, h2⟩ := h
  have hu : (underlying 179).run Tryz.prog w = .ok (.map 252 2) w := by kernel_rfl
  have hg : (getObj g).run Tryz.prog w = .ok (.map es clock) w := MapKept.run_getObj_map hb
  refine ⟨ChangeMaps.setBlock w g (.map #[] clock), ?_, ?_, ?_⟩
  · have hset : (setObj g (.map #[] clock)).run Tryz.prog w = .ok () (ChangeMaps.setBlock w g (.map #[] clock)) := MapKept.run_setObj_map _ hb
    simp [Builtin.clear_, hu, hg, hset]
  · exact ⟨_, _, ChangeMaps.heap_setBlock_same hb _, by simp, by simp⟩
  · exact ⟨rfl, rfl, rfl, by simp [ChangeMaps.setBlock], fun i _ hi => ChangeMaps.heap_setBlock_other hb _ (fun e => hi (by rw [e]))⟩
theorem mv_made (w : World) : MapHas (w.alloc (.map #[] 0)) w.heap.size (fun _ _ => none) := ⟨#[], 0, (MapKept.heap_alloc w _).1, by simp, by simp⟩
theorem MapHas.kept {w w' : World} {g : Nat} {f : Int → Int → Option Int} {row : Option Nat} (h : MapHas w g f) (hg : w.grownBy w' row) (hne : some g ≠ row) : MapHas w' g f := by
  obtain ⟨es, clock, hb, r⟩ := h
  exact ⟨es, clock, (hg.block g (Array.getElem?_eq_some_iff.1 hb).1 hne).trans hb, r⟩
theorem MapHas.lt {w : World} {g : Nat} {f : Int → Int → Option Int} (h : MapHas w g f) : g < w.heap.size := by
  obtain ⟨es, clock, hb, r⟩ := h
  exact (Array.getElem?_eq_some_iff.1 hb).1
theorem MapHas.setCell {w : World} {g : Nat} {f : Int → Int → Option Int} (h : MapHas w g f) {a : Addr} (ha : g ≠ a.block) (u : Value) : MapHas (w.setCell a u) g f := by
  obtain ⟨es, clock, hb, r⟩ := h
  exact ⟨es, clock, by rw [RowKit.Below.heap_setCell _ _ _ _ ha]; exact hb, r⟩
theorem MapHas.ext {w : World} {g : Nat} {f f' : Int → Int → Option Int} (h : MapHas w g f) (he : ∀ s e, f s e = f' s e) : MapHas w g f' := by
  obtain rfl : f = f' := funext fun s => funext fun e => he s e
  exact h
end Go.Proofs.YtfmeinkhdgbgjaaGreat
