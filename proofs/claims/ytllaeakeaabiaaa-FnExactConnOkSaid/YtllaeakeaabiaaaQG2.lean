/- Several small texts of one level, one behind the other. -/
import Derived.Test.YtllaeakeaabiaaaQG1
import Derived.Deep.AppendLies
import Derived.Deep.Slices
import Derived.Laws.MakeOwn
import Derived.Handy
import Derived.Deep.QuietTactic
import Derived.BigQuiet
import Derived.WalkKit
import Derived.ProofKit
import Derived.OpenShut
import Derived.Lib.SmallJoins
import Derived.WalkLawsBesides
import Derived.Maps.AppendAt
import Derived.Laws.AppendOwn
import Derived.Laws.IdiomStrings
import Derived.Lib.BufferRead
import Derived.RangeFuncBox
import Derived.Shelf.Lays
import Derived.Shelf.Small.Strs
import Derived.OrdersIn
import Derived.TacticsIn
import Derived.Shelf.LaysM
import Derived.Shelf.Strconv.Clone
import Derived.RegionTactic
import Derived.Lib.SlBytesRow
import Derived.Lib.ConvBytes
import Derived.Lib.BufferWrite
/- Rows in memory: what a slice reads as, a row that a call made and owns, and what becomes of both when other blocks turn. -/
namespace Go.Proofs.Ytllaeakeaabiaaa
open Go.RowKit
set_option maxRecDepth 100000
set_option linter.unusedVariables false
set_option linter.unusedSimpArgs false

theorem hide {p : Prop} (h : p) : Hid p := h
/-- The slice v has n elements of 'size' cells, and its cells hold xs. -/
def Reads (w : World) (v : Value) (n size : Nat) (xs : List Value) : Prop :=
  xs.length = n * size ∧ ∃ ad cap, v = .slice ad n cap ∧ n ≤ cap ∧ cap ≤ maxLen ∧
    (0 < n → ∃ b o, ad = some ⟨b, o, none⟩ ∧ b < w.heap.size ∧ ∀ j u, xs[j]? = some u → w.cell? ⟨b, o + j, none⟩ = some u)

/-- Of what was there only blocks from lo up to hi have turned. -/
structure Turn (lo hi : Nat) (w w' : World) : Prop where
  os : w'.os = w.os
  tape : w'.tape = w.tape
  output : w'.output = w.output
  size : w.heap.size ≤ w'.heap.size
  block : ∀ k, k < w.heap.size → (k < lo ∨ hi ≤ k) → w'.heap[k]? = w.heap[k]?

theorem Turn.refl (lo hi : Nat) (w : World) : Turn lo hi w w := ⟨rfl, rfl, rfl, Nat.le_refl _, fun _ _ _ => rfl⟩
theorem Turn.trans {lo hi : Nat} {a b c : World} (h : Turn lo hi a b) (k : Turn lo hi b c) : Turn lo hi a c :=
  ⟨k.os.trans h.os, k.tape.trans h.tape, k.output.trans h.output, Nat.le_trans h.size k.size, fun i hi h' => (k.block i (Nat.lt_of_lt_of_le hi h.size) h').trans (h.block i hi h')⟩
theorem Turn.wide {lo hi lo' hi' : Nat} {a b : World} (h : Turn lo hi a b) (h1 : lo' ≤ lo) (h2 : hi ≤ hi') : Turn lo' hi' a b :=
  ⟨h.os, h.tape, h.output, h.size, fun k hk h' => h.block k hk (by omega)⟩
theorem Turn.cell {lo hi : Nat} {a b : World} (h : Turn lo hi a b) (p o : Nat) (h1 : p < a.heap.size) (h2 : p < lo ∨ hi ≤ p) : b.cell? ⟨p, o, none⟩ = a.cell? ⟨p, o, none⟩ := World.cell?_of_block (h.block p h1 h2)
theorem Turn.frozen {lo hi : Nat} {a b : World} (h : Turn lo hi a b) (p o : Nat) (h1 : p < a.heap.size) (h2 : p < lo ∨ hi ≤ p) : b.frozen? ⟨p, o, none⟩ = a.frozen? ⟨p, o, none⟩ := World.frozen?_of_block (h.block p h1 h2)
theorem Turn.below {lo hi B : Nat} {a b : World} (h : Turn lo hi a b) (h1 : B ≤ lo) (h2 : B ≤ a.heap.size) : Below B a b := ⟨h.os, h.tape, h.output, h.size, fun k hk => h.block k (by omega) (by omega)⟩
theorem turn_of_below {B : Nat} {a b : World} (h : Below B a b) (hi : Nat) : Turn B (max hi a.heap.size) a b := ⟨h.os, h.tape, h.output, h.size, fun k hk h' => h.block k (by omega)⟩
/-- A call that made memory turned nothing. -/
theorem turn_new {a b : World} (h : Below a.heap.size a b) (lo hi : Nat) : Turn lo hi a b := ⟨h.os, h.tape, h.output, h.size, fun k hk _ => h.block k hk⟩
theorem Turn.alloc {lo hi : Nat} {a b : World} (h : Turn lo hi a b) (o : Obj) : Turn lo hi a (b.alloc o) :=
  ⟨h.os, h.tape, h.output, by simp; have := h.size; omega, fun k hk h' => by rw [((Below.refl b.heap.size b).alloc (Nat.le_refl _) o).block k (by have := h.size; omega)]; exact h.block k hk h'⟩
theorem Turn.setCell {lo hi : Nat} {a b : World} (h : Turn lo hi a b) {p : Addr} (v : Value) (h1 : (lo ≤ p.block ∧ p.block < hi) ∨ a.heap.size ≤ p.block) : Turn lo hi a (b.setCell p v) :=
  ⟨h.os, h.tape, h.output, by simp; exact h.size, fun k hk h' => by rw [Below.heap_setCell b p v k (by omega)]; exact h.block k hk h'⟩
theorem Turn.drewN {lo hi : Nat} {a b : World} (h : Turn lo hi a b) (n : Nat) : Turn lo hi a (b.drewN n) := ⟨h.os, h.tape, h.output, h.size, h.block⟩
theorem Turn.drew {lo hi : Nat} {a b : World} (h : Turn lo hi a b) : Turn lo hi a b.drew := ⟨h.os, h.tape, h.output, h.size, h.block⟩
theorem turn_grown {a b : World} {g lo hi : Nat} {row : Option Nat} (h : a.grownBy b row) (hr : ∀ k, row = some k → lo ≤ k ∧ k < hi) : Turn lo hi a b :=
  ⟨h.os, h.tape, h.output, h.size, fun k hk h' => h.block k hk (fun e => by have := hr k e.symm; omega)⟩

theorem gb_refl (w : World) (row : Option Nat) : w.grownBy w row := ⟨rfl, rfl, rfl, Nat.le_refl _, fun _ _ _ => rfl⟩
theorem gb_trans {a b c : World} {row : Option Nat} (h : a.grownBy b row) (k : b.grownBy c row) : a.grownBy c row :=
  ⟨k.os.trans h.os, k.tape.trans h.tape, k.output.trans h.output, Nat.le_trans h.size k.size, fun i hi hr => (k.block i (Nat.lt_of_lt_of_le hi h.size) hr).trans (h.block i hi hr)⟩
theorem gb_set {a b : World} {row : Option Nat} (h : a.grownBy b row) (p : Addr) (v : Value) (hp : row = some p.block) : a.grownBy (b.setCell p v) row :=
  ⟨h.os, h.tape, h.output, by simp; exact h.size, fun k hk hr => by rw [Below.heap_setCell b p v k (fun e => hr (by rw [hp, e]))]; exact h.block k hk hr⟩
theorem gb_drewN {a b : World} {row : Option Nat} (h : a.grownBy b row) (n : Nat) : a.grownBy (b.drewN n) row := ⟨h.os, h.tape, h.output, h.size, h.block⟩
theorem gb_new {a b : World} (h : Below a.heap.size a b) (row : Option Nat) : a.grownBy b row := ⟨h.os, h.tape, h.output, h.size, fun k hk _ => h.block k hk⟩

theorem Reads.kept {w w' : World} {v : Value} {n size : Nat} {xs : List Value} (h : Reads w v n size xs) (hs : w.heap.size ≤ w'.heap.size) (hk : ∀ k, v.ownBlock = some k → k < w.heap.size → w'.heap[k]? = w.heap[k]?) : Reads w' v n size xs := by
  obtain ⟨hl, ad, cap, rfl, h1, h2, h3⟩ := h
  refine ⟨hl, ad, cap, rfl, h1, h2, fun hn => ?_⟩
  obtain ⟨b, o, rfl, hb, hc⟩ := h3 hn
  exact ⟨b, o, rfl, by omega, fun j u hu => by rw [World.cell?_of_block (w := w) (hk b rfl hb)]; exact hc j u hu⟩
theorem Reads.new {w w' : World} {v : Value} {n size : Nat} {xs : List Value} (h : Reads w v n size xs) (hb : Below w.heap.size w w') : Reads w' v n size xs := h.kept hb.size fun k _ hk => hb.block k hk
theorem Reads.turn {lo hi : Nat} {w w' : World} {v : Value} {n size : Nat} {xs : List Value} (h : Reads w v n size xs) (ht : Turn lo hi w w') (hk : ∀ k, v.ownBlock = some k → k < lo ∨ hi ≤ k) : Reads w' v n size xs :=
  h.kept ht.size fun k e hk' => ht.block k hk' (hk k e)
theorem Reads.alloc {w : World} {v : Value} {n size : Nat} {xs : List Value} (h : Reads w v n size xs) (o : Obj) : Reads (w.alloc o) v n size xs := h.kept (by simp) fun k _ hk => ((Below.refl w.heap.size w).alloc (Nat.le_refl _) o).block k hk

theorem reads_of_owns {w : World} {base : Nat} {e : TypeId} {size : Nat} {v : Value} {n : Nat} {xs : List Value} (h : w.ownsRow base e size v n xs) : Reads w v n size xs := by
  refine ⟨h.1, ?_⟩
  rcases h.2 with ⟨rfl, rfl⟩ | ⟨g, cap, cur, rfl, hb, hg, h1, h2, h3, h4⟩
  · exact ⟨none, 0, rfl, Nat.le_refl _, Nat.zero_le _, fun h => absurd h (Nat.lt_irrefl _)⟩
  · refine ⟨some ⟨g, 0, none⟩, cap, rfl, h1, h2, fun hn => ⟨g, 0, rfl, (Array.getElem?_eq_some_iff.1 hg).1, fun j u hu => ?_⟩⟩
    rw [Nat.zero_add, cell_of_row w g j cur e (0, 0) hg]
    rw [← h4, List.getElem?_take] at hu
    split at hu
    · simpa using hu
    · cases hu

theorem owns_kept {w w' : World} {base : Nat} {e : TypeId} {size : Nat} {v : Value} {n : Nat} {xs : List Value} (h : w.ownsRow base e size v n xs) (hk : ∀ k, v.ownBlock = some k → k < w.heap.size → w'.heap[k]? = w.heap[k]?) : w'.ownsRow base e size v n xs := by
  refine ⟨h.1, ?_⟩
  rcases h.2 with hn | ⟨g, cap, cur, rfl, hb, hgg, rest⟩
  · exact .inl hn
  · refine .inr ⟨g, cap, cur, rfl, hb, ?_, rest⟩
    rw [hk g rfl (Array.getElem?_eq_some_iff.1 hgg).1]
    exact hgg
theorem owns_new {w w' : World} {base : Nat} {e : TypeId} {size : Nat} {v : Value} {n : Nat} {xs : List Value} (h : w.ownsRow base e size v n xs) (hb : Below w.heap.size w w') : w'.ownsRow base e size v n xs := owns_kept h fun k _ hk => hb.block k hk
theorem owns_turn {lo hi : Nat} {w w' : World} {base : Nat} {e : TypeId} {size : Nat} {v : Value} {n : Nat} {xs : List Value} (h : w.ownsRow base e size v n xs) (ht : Turn lo hi w w') (hk : ∀ k, v.ownBlock = some k → k < lo ∨ hi ≤ k) : w'.ownsRow base e size v n xs :=
  owns_kept h fun k e hk' => ht.block k hk' (hk k e)
theorem owns_base {w : World} {base base' : Nat} {e : TypeId} {size : Nat} {v : Value} {n : Nat} {xs : List Value} (h : w.ownsRow base e size v n xs) (hb : ∀ k, v.ownBlock = some k → base' ≤ k) : w.ownsRow base' e size v n xs := by
  refine ⟨h.1, ?_⟩
  rcases h.2 with hn | ⟨g, cap, cur, rfl, _, rest⟩
  · exact .inl hn
  · exact .inr ⟨g, cap, cur, rfl, hb g rfl, rest⟩
theorem owns_far {w : World} {base : Nat} {e : TypeId} {size : Nat} {v : Value} {n : Nat} {xs : List Value} (B : Nat) (h : w.ownsRow base e size v n xs) (hv : ∀ k, v.ownBlock = some k → B ≤ k) (p : Addr) (u : Value) (hp : p.block < B) : (w.setCell p u).ownsRow base e size v n xs :=
  owns_kept h fun k hk _ => Below.heap_setCell w p u k (by have := hv k hk; omega)
theorem owns_apart {w : World} {base : Nat} {e : TypeId} {size : Nat} {v : Value} {n : Nat} {xs : List Value} (h : w.ownsRow base e size v n xs) (p : Addr) (u : Value) (hp : v.ownBlock ≠ some p.block) : (w.setCell p u).ownsRow base e size v n xs :=
  owns_kept h fun k hk _ => Below.heap_setCell w p u k (fun e => hp (by rw [hk, e]))
/-- One cell of a row that is owned is set. -/
theorem owns_set {w : World} {base : Nat} {e : TypeId} {size : Nat} {v : Value} {n : Nat} {xs : List Value} (h : w.ownsRow base e size v n xs) {g : Nat} (hg : v.ownBlock = some g) (j : Nat) (u : Value) : (w.setCell ⟨g, j, none⟩ u).ownsRow base e size v n (xs.set j u) := by
  refine ⟨by simp [h.1], ?_⟩
  rcases h.2 with ⟨rfl, _⟩ | ⟨g', cap, cur, rfl, hb, hgg, h1, h2, h3, h4⟩
  · simp [Value.ownBlock] at hg
  · simp [Value.ownBlock] at hg
    subst hg
    refine .inr ⟨g', cap, cur.setIfInBounds j u, rfl, hb, ?_, h1, h2, by simp [h3], ?_⟩
    · simp [World.setCell, Array.getElem?_modify, hgg]
    · rw [← h4]; simp [List.take_set]
/-- What the walk wants of a row that is owned: where it lies, its cells, its marks. -/
theorem owns_open {w : World} {base : Nat} {e : TypeId} {size : Nat} {v : Value} {n : Nat} {xs : List Value} (h : w.ownsRow base e size v n xs) (hn : 0 < n) : ∃ g cap, v = .slice (some ⟨g, 0, none⟩) n cap ∧ v.ownBlock = some g ∧ base ≤ g ∧ g < w.heap.size ∧ n ≤ cap ∧ cap ≤ maxLen ∧
    (∀ j u, xs[j]? = some u → w.cell? ⟨g, j, none⟩ = some u) ∧ ∀ j, w.frozen? ⟨g, j, none⟩ = false := by
  rcases h.2 with ⟨rfl, rfl⟩ | ⟨g, cap, cur, rfl, hb, hgg, h1, h2, h3, h4⟩
  · exact absurd hn (Nat.lt_irrefl _)
  · refine ⟨g, cap, rfl, rfl, hb, (Array.getElem?_eq_some_iff.1 hgg).1, h1, h2, fun j u hu => ?_, fun j => by simp [World.frozen?, hgg]⟩
    rw [cell_of_row w g j cur e (0, 0) hgg]
    rw [← h4, List.getElem?_take] at hu
    split at hu
    · simpa using hu
    · cases hu
theorem owns_form {w : World} {base : Nat} {e : TypeId} {size : Nat} {v : Value} {n : Nat} {xs : List Value} (h : w.ownsRow base e size v n xs) : ∃ ad cap, v = .slice ad n cap ∧ n ≤ cap ∧ cap ≤ maxLen := by
  obtain ⟨_, ad, cap, h1, h2, h3, _⟩ := reads_of_owns h
  exact ⟨ad, cap, h1, h2, h3⟩
theorem owns_lt {w : World} {base : Nat} {e : TypeId} {size : Nat} {v : Value} {n : Nat} {xs : List Value} (h : w.ownsRow base e size v n xs) : ∀ k, v.ownBlock = some k → base ≤ k ∧ k < w.heap.size := h.lt

/-- Element i of rows laid one behind the other. -/
theorem flat_get {α : Type} (f : α → List Value) (s : Nat) (hf : ∀ x, (f x).length = s) (L : List α) (i : Nat) (hi : i < L.length) (r : Nat) (hr : r < s) : (L.flatMap f)[i * s + r]? = (f L[i])[r]? := by
  induction L generalizing i with
  | nil => exact absurd hi (Nat.not_lt_zero _)
  | cons x L ih =>
    cases i with
    | zero => simp only [List.flatMap_cons, Nat.zero_mul, Nat.zero_add]; rw [List.getElem?_append_left (by rw [hf]; omega)]; rfl
    | succ i =>
      simp only [List.flatMap_cons]
      rw [List.getElem?_append_right (by rw [hf, Nat.succ_mul]; omega), hf, show (i + 1) * s + r - s = i * s + r by rw [Nat.succ_mul]; omega]
      simpa using ih i (by simpa using hi)
theorem flat_length {α : Type} (f : α → List Value) (s : Nat) (hf : ∀ x, (f x).length = s) (L : List α) : (L.flatMap f).length = L.length * s := by
  induction L with
  | nil => simp
  | cons x L ih => simp only [List.flatMap_cons, List.length_append, List.length_cons, hf, ih, Nat.succ_mul]; omega
theorem flat_set {α : Type} (f : α → List Value) (s : Nat) (hf : ∀ x, (f x).length = s) (L : List α) (i : Nat) (hi : i < L.length) (r : Nat) (hr : r < s) (u : Value) (y : α) (hy : f y = (f L[i]).set r u) : (L.flatMap f).set (i * s + r) u = (L.set i y).flatMap f := by
  induction L generalizing i with
  | nil => exact absurd hi (Nat.not_lt_zero _)
  | cons x L ih =>
    cases i with
    | zero =>
      simp only [List.flatMap_cons, Nat.zero_mul, Nat.zero_add, List.set_cons_zero]
      rw [List.set_append_left _ _ (by rw [hf]; omega), hy]; rfl
    | succ i =>
      simp only [List.flatMap_cons, List.set_cons_succ]
      rw [List.set_append_right _ _ (by rw [hf, Nat.succ_mul]; omega), hf, show (i + 1) * s + r - s = i * s + r by rw [Nat.succ_mul]; omega]
      rw [ih i (by simpa using hi) (by simpa using hy)]
theorem int_eq {a b : Int} (h : a = b) : Value.int .i64 a = .int .i64 b := by rw [h]
theorem pre_set {xs ys : List Value} {m : Nat} {a : Value} (m' : Nat) (h : ∀ j, j < m → xs[j]? = ys[j]?) (hy : ys[m]? = some a) (hm : m < xs.length) (hm' : m' = m + 1) : ∀ j, j < m' → (xs.set m a)[j]? = ys[j]? := by
  intro j hj
  subst hm'
  rw [List.getElem?_set]
  split
  · rename_i h'; subst h'; simp [hy, hm]
  · exact h j (by omega)
theorem pre_end {xs ys : List Value} {m : Nat} (hx : xs.length = m) (hy : ys.length = m) (h : ∀ j, j < m → xs[j]? = ys[j]?) : xs = ys := List.ext_getElem? fun j => by
  by_cases hj : j < m
  · exact h j hj
  · rw [List.getElem?_eq_none (by omega), List.getElem?_eq_none (by omega)]
end Go.Proofs.Ytllaeakeaabiaaa
/- Regions that draw their order and hold calls that make memory: one walk in the order of the text serves them all. -/
namespace Go.Proofs.Ytllaeakeaabiaaa
open Go.RowKit
set_option maxRecDepth 100000
set_option linter.unusedVariables false

/-- A world behind V: of what was in V nothing has turned. -/
structure Later (V : World) where
  w : World
  b : Below V.heap.size V w
theorem later_calls {P : Program} {f : FuncId} {args : Array Value} {V : World} {x : Later V} {v : Value} (h : Calls P f args x.w fun e w' => e = .returned v ∧ Below x.w.heap.size x.w w') :
    Calls P f args x.w fun e w'' => e = .returned v ∧ ∃ y : Later V, w'' = y.w := h.mono fun _ w' h => ⟨h.1, ⟨w', bchain x.b h.2⟩, rfl⟩
theorem later_same {P : Program} {f : FuncId} {args : Array Value} {V : World} {x : Later V} {v : Value} (h : Calls P f args x.w fun e w' => e = .returned v ∧ w' = x.w) :
    Calls P f args x.w fun e w'' => e = .returned v ∧ ∃ y : Later V, w'' = y.w := h.mono fun _ w' h => ⟨h.1, x, h.2⟩
/-- A region that draws its order, whose operations read and whose callees may make memory: one walk in the text's order serves every order. -/
theorem region_later {P : Program} {id : Nat} {Q : Exit → Act → World → Prop} {a : Act} {w : World} {l : List Oper} (hm : P.follows .mixedOrders = true) (hB : Region.lexB .any l.toArray = true)
    (h : wpQuiet P l.toArray (fun w' => ∃ x : Later w, w' = x.w) (fun a' => ∀ w', (∃ x : Later w, w' = x.w) → Q .normal a' w') l a) : (Code.region id l.toArray true).wp P Q a w :=
  wp_region_quiet (C := fun w' => ∃ x : Later w, w' = x.w) hm hB ⟨⟨w.drewN 1, bo_drewN 1 (Below.refl _ _)⟩, rfl⟩ (by simpa using h)

end Go.Proofs.Ytllaeakeaabiaaa
/- Stream states in plain words: what an event makes of a state, who may speak, a row of events. -/
namespace Go.Proofs.Ytllaeakeaabiaaa
open Go.RowKit
set_option maxRecDepth 100000
set_option linter.unusedSimpArgs false
set_option linter.unusedVariables false

def nxV (s e : Int) : Int × Bool :=
  if s = 0 then (if e = 1 then (1, true) else (s, false))
  else if s = 1 then (if e = 2 then (2, true) else if e = 3 then (3, true) else if e = 6 ∨ e = 7 then (s, true) else if e = 4 ∨ e = 5 then (4, true) else (s, false))
  else if s = 2 then (if e = 3 ∨ e = 4 ∨ e = 5 then (4, true) else if e = 7 then (s, true) else (s, false))
  else if s = 3 then (if e = 2 ∨ e = 4 ∨ e = 5 then (4, true) else if e = 6 then (s, true) else (s, false))
  else if s = 4 then (if e = 4 ∨ e = 5 then (s, true) else (s, false))
  else (s, false)
def msV (s : Int) : Bool := decide (s = 1 ∨ s = 2)
def mgV (s : Int) : Bool := decide (s = 1 ∨ s = 3)
/-- A row of events, from a state on. -/
def afV : Int → List Int → Int × Bool
  | s, [] => (s, true)
  | s, e :: L => if (nxV s e).2 = true then afV (nxV s e).1 L else (s, false)
theorem nx_no {s e n : Int} (h : nxV s e = (n, false)) : n = s := by
  unfold nxV at h
  repeat' split at h
  all_goals simp at h
  all_goals omega
theorem nx_closed {e n : Int} {b : Bool} (h : nxV 4 e = (n, b)) : n = 4 := by
  unfold nxV at h
  simp at h
  split at h <;> simp at h <;> omega
theorem nx_up {s e n : Int} (h : nxV s e = (n, true)) : s ≤ n ∧ 0 ≤ s ∧ n ≤ 4 ∧ 1 ≤ n := by
  unfold nxV at h
  repeat' split at h
  all_goals simp at h
  all_goals omega
/-- Behind an end nobody speaks, and data comes only where it may. -/
theorem nx_sent_end {s n : Int} (h : nxV s 3 = (n, true)) : msV n = false := by
  unfold nxV at h
  repeat' split at h
  all_goals simp at h
  all_goals (try subst h; decide)
  all_goals omega
theorem nx_got_end {s n : Int} (h : nxV s 2 = (n, true)) : mgV n = false := by
  unfold nxV at h
  repeat' split at h
  all_goals simp at h
  all_goals (try subst h; decide)
  all_goals omega
theorem nx_sent_data {s n : Int} (h : nxV s 7 = (n, true)) : msV s = true := by
  unfold msV
  refine decide_eq_true ?_
  unfold nxV at h
  repeat' split at h
  all_goals simp at h
  all_goals omega
theorem nx_got_data {s n : Int} (h : nxV s 6 = (n, true)) : mgV s = true := by
  unfold mgV
  refine decide_eq_true ?_
  unfold nxV at h
  repeat' split at h
  all_goals simp at h
  all_goals omega
theorem af_state {s : Int} {L : List Int} (h0 : 0 ≤ s) (h1 : s ≤ 4) : 0 ≤ (afV s L).1 ∧ (afV s L).1 ≤ 4 := by
  induction L generalizing s with
  | nil => exact ⟨h0, h1⟩
  | cons e L ih =>
    unfold afV
    split
    · rename_i h
      obtain ⟨n, hn⟩ : ∃ n, nxV s e = (n, true) := ⟨(nxV s e).1, by rw [← h]⟩
      have := nx_up hn
      rw [hn]
      exact ih (by omega) (by omega)
    · exact ⟨h0, h1⟩
/-- Of a row: what is left from event k on, where the state ahead of it is s. -/
theorem af_step_yes {s n : Int} {L : List Int} {k : Nat} (hk : k < L.length) (h : nxV s L[k] = (n, true)) : afV s (L.drop k) = afV n (L.drop (k + 1)) := by
  rw [List.drop_eq_getElem_cons hk]
  show (if (nxV s L[k]).2 = true then afV (nxV s L[k]).1 (L.drop (k + 1)) else (s, false)) = _
  rw [h]
  rfl
theorem af_step_no {s n : Int} {L : List Int} {k : Nat} (hk : k < L.length) (h : nxV s L[k] = (n, false)) : afV s (L.drop k) = (s, false) := by
  rw [List.drop_eq_getElem_cons hk]
  show (if (nxV s L[k]).2 = true then afV (nxV s L[k]).1 (L.drop (k + 1)) else (s, false)) = _
  rw [h]
  rfl
theorem af_end {s : Int} {L : List Int} {k : Nat} (hk : L.length ≤ k) : afV s (L.drop k) = (s, true) := by
  rw [List.drop_eq_nil_of_le hk]; rfl
/-- The states and the events, parted. -/
theorem st_cases (s : Int) : s = 0 ∨ s = 1 ∨ s = 2 ∨ s = 3 ∨ s = 4 ∨ (s ≠ 0 ∧ s ≠ 1 ∧ s ≠ 2 ∧ s ≠ 3 ∧ s ≠ 4) := by omega
theorem ev_cases (e : Int) : e = 1 ∨ e = 2 ∨ e = 3 ∨ e = 4 ∨ e = 5 ∨ e = 6 ∨ e = 7 ∨ (e ≠ 1 ∧ e ≠ 2 ∧ e ≠ 3 ∧ e ≠ 4 ∧ e ≠ 5 ∧ e ≠ 6 ∧ e ≠ 7) := by omega
theorem nx_bad {s e : Int} (h : s ≠ 0 ∧ s ≠ 1 ∧ s ≠ 2 ∧ s ≠ 3 ∧ s ≠ 4) : nxV s e = (s, false) := by
  unfold nxV
  simp [h.1, h.2.1, h.2.2.1, h.2.2.2.1, h.2.2.2.2]
theorem nx_none {s e : Int} (h : e ≠ 1 ∧ e ≠ 2 ∧ e ≠ 3 ∧ e ≠ 4 ∧ e ≠ 5 ∧ e ≠ 6 ∧ e ≠ 7) : nxV s e = (s, false) := by
  unfold nxV
  simp [h.1, h.2.1, h.2.2.1, h.2.2.2.1, h.2.2.2.2.1, h.2.2.2.2.2.1, h.2.2.2.2.2.2]
end Go.Proofs.Ytllaeakeaabiaaa
/- What each Go function of chapter 1 (pipes), of the program and of its model, answers at every argument: one contract a function. -/
namespace Go.Proofs.Ytllaeakeaabiaaa
open Go.RowKit
set_option maxRecDepth 100000
set_option linter.unusedSimpArgs false
set_option linter.unusedVariables false

open Go.ChangeShapes Go.WideShapes Go.ChangeAt Go.Joins in
/-- A Pipe of the laws that came in, as a value. -/
theorem open_Pipe {H : Type} {enc : TypeId × Value → H} {W : World} {base : Nat} {v : Value} {d : DataW H} {p : List MemPlace} (hv : Value.okWide Try.prog W .any base 78 v)
    (h : DataW.Trod enc Try.prog W 0 (fun _ => true) true 78 v d p) : ∃ (r : Int) (b : ByteArray) (e k : Bool), b.size ≤ maxLen ∧ v = .agg #[.int .i64 r, .string b, .bool e, .bool k] := by
  obtain ⟨c0, c1, c2, c3, y0, y1, y2, y3, m, rfl, _, _, hy0, hy1, hy2, hy3⟩ := open_agg4 Try.underlying78 (by kernel_rfl) (by kernel_rfl) hv h
  obtain ⟨a, e0, _, wa⟩ := DataW.trod_int Try.underlying2 hy0
  obtain ⟨s, e1, _, ws⟩ := DataW.trod_string Try.underlying9 hy1
  obtain ⟨x, e2, _⟩ := DataW.trod_bool Try.underlying4 hy2
  obtain ⟨y, e3, _⟩ := DataW.trod_bool Try.underlying4 hy3
  simp at e0 e1 e2 e3
  subst e0 e1 e2 e3
  exact ⟨_, _, _, _, ws, rfl⟩

/-- Is a pipe right? -/
def okB (r : Int) (b : ByteArray) (k : Bool) : Bool := decide (1 ≤ r ∧ r ≤ 2000 ∧ (b.size : Int) ≤ r) && (!k || b.toList.isEmpty)

theorem okB_low {r : Int} {b : ByteArray} {k : Bool} (h : ¬ (1 ≤ r ∧ r ≤ 2000 ∧ (b.size : Int) ≤ r)) : okB r b k = false := by simp [okB, h]
theorem okB_rest {r : Int} {b : ByteArray} {k : Bool} (h : 1 ≤ r ∧ r ≤ 2000 ∧ (b.size : Int) ≤ r) : okB r b k = (!k || b.toList.isEmpty) := by simp [okB, h]

theorem sz (r : Int) (b : ByteArray) (e k : Bool) (left : Int) (w : World) (hb : b.size ≤ maxLen) (h0 : 0 ≤ left) (h1 : left ≤ 1048576) :
    Calls Try.prog 74 #[.agg #[.int .i64 r, .string b, .bool e, .bool k], .int .i64 left] w fun x w' => x = .returned (.int .i64 (if left - b.size < 0 then -1 else left - b.size)) ∧ Below w.heap.size w w' := by
  unfold maxLen at hb
  by_cases h : left - b.size < 0
  · go_enter Try.func74, Try.ntmps74
    go_wp2
    go_ret
    exact ⟨by simp [h], (by repeat' (first | (with_reducible exact Below.refl _ _) | (with_reducible refine Below.drew ?_) | (with_reducible refine bo_drewN _ ?_) | (with_reducible refine bo_alloc ?_ _) | (refine bchain ?_ (by with_reducible assumption)) | (with_reducible refine Below.setCell ?_ ?_ _) | go_size))⟩
  · go_enter Try.func74, Try.ntmps74
    go_wp2
    go_ret
    exact ⟨by simp [h], (by repeat' (first | (with_reducible exact Below.refl _ _) | (with_reducible refine Below.drew ?_) | (with_reducible refine bo_drewN _ ?_) | (with_reducible refine bo_alloc ?_ _) | (refine bchain ?_ (by with_reducible assumption)) | (with_reducible refine Below.setCell ?_ ?_ _) | go_size))⟩

theorem toP (r : Int) (b : ByteArray) (e k : Bool) (w : World) :
    Calls Try.prog 75 #[.agg #[.int .i64 r, .string b, .bool e, .bool k]] w fun x w' => x = .returned (.agg #[.int .i64 r, .string b, .bool e, .bool k]) ∧ Below w.heap.size w w' := by
  go_enter Try.func75, Try.ntmps75
  go_wp2
  go_returns
  exact ⟨rfl, (by repeat' (first | (with_reducible exact Below.refl _ _) | (with_reducible refine Below.drew ?_) | (with_reducible refine bo_drewN _ ?_) | (with_reducible refine bo_alloc ?_ _) | (refine bchain ?_ (by with_reducible assumption)) | (with_reducible refine Below.setCell ?_ ?_ _) | go_size))⟩

theorem eqP (r : Int) (b : ByteArray) (e k : Bool) (w : World) :
    Calls Try.prog 90 #[.agg #[.int .i64 r, .string b, .bool e, .bool k], .agg #[.int .i64 r, .string b, .bool e, .bool k]] w fun x w' => x = .returned (.bool true) ∧ Below w.heap.size w w' := by
  go_enter Try.func90, Try.ntmps90
  go_wp2
  go_ret
  exact ⟨rfl, (by repeat' (first | (with_reducible exact Below.refl _ _) | (with_reducible refine Below.drew ?_) | (with_reducible refine bo_drewN _ ?_) | (with_reducible refine bo_alloc ?_ _) | (refine bchain ?_ (by with_reducible assumption)) | (with_reducible refine Below.setCell ?_ ?_ _) | go_size))⟩

theorem in1 (x lo hi : Int) (w : World) :
    Calls Try.prog 20 #[.int .i64 x, .int .i64 lo, .int .i64 hi] w fun e w' => e = .returned (.bool (decide (lo ≤ x ∧ x ≤ hi))) ∧ w' = w := by
  by_cases h1 : lo ≤ x
  · by_cases h2 : x ≤ hi
    · go_enter Try.func20, Try.ntmps20
      go_wp2
      go_ret
      exact ⟨by simp [h1, h2], rfl⟩
    · have hd : decide (lo ≤ x ∧ x ≤ hi) = false := by simp [h2]
      rw [hd]
      go_enter Try.func20, Try.ntmps20
      go_wp2
      go_ret
      exact ⟨by simp [h1, h2], rfl⟩
  · have hd : decide (lo ≤ x ∧ x ≤ hi) = false := by simp [h1]
    rw [hd]
    go_enter Try.func20, Try.ntmps20
    go_wp2
    go_ret
    exact ⟨rfl, rfl⟩

theorem specOk (r : Int) (b : ByteArray) (e k : Bool) (w : World) (hb : b.size ≤ maxLen) :
    Calls Try.prog 42 #[.agg #[.int .i64 r, .string b, .bool e, .bool k]] w fun x w' => x = .returned (.bool (okB r b k)) ∧ Below w.heap.size w w' := by
  unfold maxLen at hb
  by_cases h1 : 1 ≤ r ∧ r ≤ 2000
  · have hd : decide (1 ≤ r ∧ r ≤ 2000) = true := by simp [h1]
    by_cases h2 : (b.size : Int) ≤ r
    · rw [okB_rest ⟨h1.1, h1.2, h2⟩]
      cases k
      · go_enter Try.func42, Try.ntmps42
        go_wp2_with (go_at_call 20; refine (in1 _ _ _ _).mono ?_; rintro x w' ⟨rfl, rfl⟩)
        go_ret
        exact ⟨by simp, (by repeat' (first | (with_reducible exact Below.refl _ _) | (with_reducible refine Below.drew ?_) | (with_reducible refine bo_drewN _ ?_) | (with_reducible refine bo_alloc ?_ _) | (refine bchain ?_ (by with_reducible assumption)) | (with_reducible refine Below.setCell ?_ ?_ _) | go_size))⟩
      · go_enter Try.func42, Try.ntmps42
        go_wp2_with (go_at_call 20; refine (in1 _ _ _ _).mono ?_; rintro x w' ⟨rfl, rfl⟩)
        go_ret
        exact ⟨by simp, (by repeat' (first | (with_reducible exact Below.refl _ _) | (with_reducible refine Below.drew ?_) | (with_reducible refine bo_drewN _ ?_) | (with_reducible refine bo_alloc ?_ _) | (refine bchain ?_ (by with_reducible assumption)) | (with_reducible refine Below.setCell ?_ ?_ _) | go_size))⟩
    · rw [okB_low (fun h => h2 h.2.2)]
      go_enter Try.func42, Try.ntmps42
      go_wp2_with (go_at_call 20; refine (in1 _ _ _ _).mono ?_; rintro x w' ⟨rfl, rfl⟩)
      go_ret
      exact ⟨rfl, (by repeat' (first | (with_reducible exact Below.refl _ _) | (with_reducible refine Below.drew ?_) | (with_reducible refine bo_drewN _ ?_) | (with_reducible refine bo_alloc ?_ _) | (refine bchain ?_ (by with_reducible assumption)) | (with_reducible refine Below.setCell ?_ ?_ _) | go_size))⟩
  · have hd : decide (1 ≤ r ∧ r ≤ 2000) = false := by simp [h1]
    rw [okB_low (fun h => h1 ⟨h.1, h.2.1⟩)]
    go_enter Try.func42, Try.ntmps42
    go_wp2_with (go_at_call 20; refine (in1 _ _ _ _).mono ?_; rintro x w' ⟨rfl, rfl⟩)
    go_ret
    exact ⟨rfl, (by repeat' (first | (with_reducible exact Below.refl _ _) | (with_reducible refine Below.drew ?_) | (with_reducible refine bo_drewN _ ?_) | (with_reducible refine bo_alloc ?_ _) | (refine bchain ?_ (by with_reducible assumption)) | (with_reducible refine Below.setCell ?_ ?_ _) | go_size))⟩

theorem right (r : Int) (b : ByteArray) (e k : Bool) (w : World) (hb : b.size ≤ maxLen) :
    Calls Try.prog 95 #[.agg #[.int .i64 r, .string b, .bool e, .bool k]] w fun x w' => x = .returned (.bool (okB r b k)) ∧ Below w.heap.size w w' := by
  unfold maxLen at hb
  by_cases h1 : r < 1
  · rw [okB_low (fun h => by omega)]
    go_enter Try.func95, Try.ntmps95
    go_wp2
    go_ret
    exact ⟨rfl, (by repeat' (first | (with_reducible exact Below.refl _ _) | (with_reducible refine Below.drew ?_) | (with_reducible refine bo_drewN _ ?_) | (with_reducible refine bo_alloc ?_ _) | (refine bchain ?_ (by with_reducible assumption)) | (with_reducible refine Below.setCell ?_ ?_ _) | go_size))⟩
  · by_cases h2 : 2000 < r
    · rw [okB_low (fun h => by omega)]
      go_enter Try.func95, Try.ntmps95
      go_wp2
      go_ret
      exact ⟨rfl, (by repeat' (first | (with_reducible exact Below.refl _ _) | (with_reducible refine Below.drew ?_) | (with_reducible refine bo_drewN _ ?_) | (with_reducible refine bo_alloc ?_ _) | (refine bchain ?_ (by with_reducible assumption)) | (with_reducible refine Below.setCell ?_ ?_ _) | go_size))⟩
    · by_cases h3 : r < (b.size : Int)
      · rw [okB_low (fun h => by omega)]
        go_enter Try.func95, Try.ntmps95
        go_wp2
        go_ret
        exact ⟨rfl, (by repeat' (first | (with_reducible exact Below.refl _ _) | (with_reducible refine Below.drew ?_) | (with_reducible refine bo_drewN _ ?_) | (with_reducible refine bo_alloc ?_ _) | (refine bchain ?_ (by with_reducible assumption)) | (with_reducible refine Below.setCell ?_ ?_ _) | go_size))⟩
      · rw [okB_rest (by omega)]
        cases k
        · go_enter Try.func95, Try.ntmps95
          go_wp2
          go_ret
          exact ⟨by simp, (by repeat' (first | (with_reducible exact Below.refl _ _) | (with_reducible refine Below.drew ?_) | (with_reducible refine bo_drewN _ ?_) | (with_reducible refine bo_alloc ?_ _) | (refine bchain ?_ (by with_reducible assumption)) | (with_reducible refine Below.setCell ?_ ?_ _) | go_size))⟩
        · go_enter Try.func95, Try.ntmps95
          go_wp2
          go_ret
          exact ⟨by simp, (by repeat' (first | (with_reducible exact Below.refl _ _) | (with_reducible refine Below.drew ?_) | (with_reducible refine bo_drewN _ ?_) | (with_reducible refine bo_alloc ?_ _) | (refine bchain ?_ (by with_reducible assumption)) | (with_reducible refine Below.setCell ?_ ?_ _) | go_size))⟩





end Go.Proofs.Ytllaeakeaabiaaa
/- What is in range: the program's word for it and the model's. -/
namespace Go.Proofs.Ytllaeakeaabiaaa
open Go.RowKit
set_option maxRecDepth 100000
set_option linter.unusedSimpArgs false
set_option linter.unusedVariables false

/-- Is x from lo to hi? -/
def inB (x lo hi : Int) : Bool := decide (lo ≤ x ∧ x ≤ hi)
theorem inB_true {x lo hi : Int} (h : inB x lo hi = true) : lo ≤ x ∧ x ≤ hi := of_decide_eq_true h
theorem inB_of {x lo hi : Int} (h : lo ≤ x) (h' : x ≤ hi) : inB x lo hi = true := decide_eq_true ⟨h, h'⟩
theorem inB_not {x lo hi : Int} (h : ¬ (lo ≤ x ∧ x ≤ hi)) : inB x lo hi = false := decide_eq_false h
theorem inB_false {x lo hi : Int} (h : inB x lo hi = false) : ¬ (lo ≤ x ∧ x ≤ hi) := of_decide_eq_false h

theorem implWithin (x lo hi : Int) (w : World) : Calls Try.prog 66 #[.int .i64 x, .int .i64 lo, .int .i64 hi] w fun e w' => e = .returned (.bool (inB x lo hi)) ∧ w' = w := by
  by_cases h1 : lo ≤ x
  · by_cases h2 : x ≤ hi
    · have : inB x lo hi = true := decide_eq_true ⟨h1, h2⟩
      rw [this]
      go_enter Try.func66, Try.ntmps66
      go_wp2_with fail
      go_ret
      simp
    · have : inB x lo hi = false := decide_eq_false (by omega)
      rw [this]
      go_enter Try.func66, Try.ntmps66
      go_wp2_with fail
      go_ret
      simp
  · have : inB x lo hi = false := decide_eq_false (by omega)
    rw [this]
    go_enter Try.func66, Try.ntmps66
    go_wp2_with fail
    go_ret
    simp

theorem specIn (x lo hi : Int) (w : World) : Calls Try.prog 20 #[.int .i64 x, .int .i64 lo, .int .i64 hi] w fun e w' => e = .returned (.bool (inB x lo hi)) ∧ w' = w := by
  by_cases h1 : lo ≤ x
  · by_cases h2 : x ≤ hi
    · have : inB x lo hi = true := decide_eq_true ⟨h1, h2⟩
      rw [this]
      go_enter Try.func20, Try.ntmps20
      go_wp2_with fail
      go_ret
      simp
    · have : inB x lo hi = false := decide_eq_false (by omega)
      rw [this]
      go_enter Try.func20, Try.ntmps20
      go_wp2_with fail
      go_ret
      simp
  · have : inB x lo hi = false := decide_eq_false (by omega)
    rw [this]
    go_enter Try.func20, Try.ntmps20
    go_wp2_with fail
    go_ret
    simp
end Go.Proofs.Ytllaeakeaabiaaa
/- The cursor from which the laws draw their inputs: what its functions do to memory, and in what range they answer. -/
namespace Go.Proofs.Ytllaeakeaabiaaa
open Go.RowKit
set_option maxRecDepth 100000
set_option linter.unusedSimpArgs false
set_option linter.unusedVariables false

/-- Of what was there nothing has turned but block g. -/
structure Moves (g : Nat) (w w' : World) : Prop where
  os : w'.os = w.os
  tape : w'.tape = w.tape
  output : w'.output = w.output
  size : w.heap.size ≤ w'.heap.size
  block : ∀ k, k < w.heap.size → k ≠ g → w'.heap[k]? = w.heap[k]?

theorem Moves.refl (g : Nat) (w : World) : Moves g w w := ⟨rfl, rfl, rfl, Nat.le_refl _, fun _ _ _ => rfl⟩
theorem Moves.trans {g : Nat} {a b c : World} (h : Moves g a b) (k : Moves g b c) : Moves g a c :=
  ⟨k.os.trans h.os, k.tape.trans h.tape, k.output.trans h.output, Nat.le_trans h.size k.size, fun i hi hg => (k.block i (Nat.lt_of_lt_of_le hi h.size) hg).trans (h.block i hi hg)⟩
theorem Moves.of_below {g : Nat} {a b : World} (h : Below a.heap.size a b) : Moves g a b := ⟨h.os, h.tape, h.output, h.size, fun k hk _ => h.block k hk⟩
theorem Moves.drewN {g : Nat} {a b : World} (n : Nat) (h : Moves g a b) : Moves g a (b.drewN n) := ⟨h.os, h.tape, h.output, h.size, h.block⟩
theorem Moves.drew {g : Nat} {a b : World} (h : Moves g a b) : Moves g a b.drew := ⟨h.os, h.tape, h.output, h.size, h.block⟩
theorem Moves.alloc {g : Nat} {a b : World} (h : Moves g a b) (o : Obj) : Moves g a (b.alloc o) := h.trans (Moves.of_below (Joins.below_alloc1 b o))
theorem Moves.set {g : Nat} {a b : World} (h : Moves g a b) (o : Nat) (v : Value) : Moves g a (b.setCell ⟨g, o, none⟩ v) :=
  h.trans ⟨rfl, rfl, rfl, by simp, fun k _ hg => Below.heap_setCell b ⟨g, o, none⟩ v k hg⟩
/-- A store into a block that the call itself made. -/
theorem Moves.setNew {g : Nat} {a b : World} (h : Moves g a b) (p : Addr) (hp : a.heap.size ≤ p.block) (v : Value) : Moves g a (b.setCell p v) :=
  ⟨h.os, h.tape, h.output, by simpa using h.size, fun k hk hg => (Below.heap_setCell b p v k (by omega)).trans (h.block k hk hg)⟩
theorem Moves.below {g B : Nat} {a b : World} (h : Moves g a b) (h1 : B ≤ g) (h2 : B ≤ a.heap.size) : Below B a b := ⟨h.os, h.tape, h.output, h.size, fun k hk => h.block k (by omega) (by omega)⟩
theorem Moves.cell {g : Nat} {a b : World} (h : Moves g a b) (k o : Nat) (h1 : k < a.heap.size) (h2 : k ≠ g) : b.cell? ⟨k, o, none⟩ = a.cell? ⟨k, o, none⟩ := World.cell?_of_block (w := a) (h.block k h1 h2)
theorem Moves.frozen {g : Nat} {a b : World} (h : Moves g a b) (k o : Nat) (h1 : k < a.heap.size) (h2 : k ≠ g) : b.frozen? ⟨k, o, none⟩ = a.frozen? ⟨k, o, none⟩ := World.frozen?_of_block (w := a) (h.block k h1 h2)

/-- The bytes of the draw, in blocks below B. -/
def CodeAt (w : World) (a : Option Addr) (len B : Nat) : Prop := ∀ j, j < len → ∃ (b o : Nat) (z : Int), a = some ⟨b, o, none⟩ ∧ b < B ∧ 0 ≤ z ∧ z ≤ 255 ∧ w.cell? ⟨b, o + j, none⟩ = some (.int .u8 z)

theorem CodeAt.kept {w w' : World} {a : Option Addr} {len B : Nat} (h : CodeAt w a len B) (hb : Below B w w') : CodeAt w' a len B := fun j hj => by
  obtain ⟨b, o, z, h1, h2, h3, h4, h5⟩ := h j hj
  exact ⟨b, o, z, h1, h2, h3, h4, by rw [hb.cell (p := ⟨b, o + j, none⟩) h2]; exact h5⟩

theorem and255 (n : Int) : bits .and .i64 n 255 = n % 256 := by
  have h255 : (BitVec.ofInt 64 255).toNat = 2 ^ 8 - 1 := by decide
  have key : (BitVec.ofInt 64 n &&& BitVec.ofInt 64 255).toNat = (n % ((2 ^ 64 : Nat) : Int)).toNat % 2 ^ 8 := by
    rw [BitVec.toNat_and, BitVec.toNat_ofInt, h255, Nat.and_two_pow_sub_one_eq_mod]
  show IntKind.i64.wrap ((BitVec.ofInt 64 n &&& BitVec.ofInt 64 255).toNat : Nat) = n % 256
  rw [key, IntKind.wrap_i64]
  omega

theorem and255_lo (n : Int) : 0 ≤ bits .and .i64 n 255 := by rw [and255]; omega
theorem and255_hi (n : Int) : bits .and .i64 n 255 ≤ 255 := by rw [and255]; omega

theorem emod_lt_of {x n : Int} (h0 : 0 ≤ x) (hn : 0 < n) : 0 ≤ x % n ∧ x % n < n := ⟨Int.emod_nonneg _ (by omega), Int.emod_lt_of_pos _ hn⟩



end Go.Proofs.Ytllaeakeaabiaaa
/- Texts out of rows of bytes. -/
namespace Go.Proofs.Ytllaeakeaabiaaa
open Go.RowKit
set_option maxRecDepth 100000
set_option linter.unusedSimpArgs false
set_option linter.unusedVariables false

/-- A text out of numbers. -/
def strOf (l : List Int) : ByteArray := ⟨(l.map fun z => UInt8.ofNat z.toNat).toArray⟩
theorem strOf_size (l : List Int) : (strOf l).size = l.length := by simp [strOf, ByteArray.size]
theorem u8_of {z : Int} (h0 : 0 ≤ z) (h1 : z ≤ 255) : ((UInt8.ofNat z.toNat).toNat : Int) = z := by simp [UInt8.toNat_ofNat']; omega

theorem row_string {W : World} {base n : Nat} {v : Value} {l : List Int} (hown : W.ownsRow base 5 1 v n (l.map (Value.int .u8))) (hx : ∀ x ∈ l, 0 ≤ x ∧ x ≤ 255) :
    (convert 117 9 v).run Try.prog W = .ok (.string (strOf l)) W := by
  obtain ⟨h1, h2⟩ := hown
  rcases h2 with ⟨rfl, rfl⟩ | ⟨b, cap, cur, rfl, e2, e3, e4, e5, e6, e7⟩
  · have : l = [] := by simpa using h1
    subst this
    simpa [strOf] using Lib.run_convert_nil_bytes (P := Try.prog) W 117 9 5 0 Try.underlying117 Try.underlying5 Try.underlying9
  · have hn : (l.map fun z => UInt8.ofNat z.toNat).length = n := by simp at h1 ⊢; omega
    have := run_convert_bytes_back (P := Try.prog) W 117 9 5 ⟨b, 0, none⟩ cap (l.map fun z => UInt8.ofNat z.toNat) Try.underlying117 Try.underlying5 Try.underlying9 (fun j hjl => by
      have hj : j < l.length := by simpa using hjl
      have h6 : W.cell? ((⟨b, 0, none⟩ : Addr).add j) = cur[j]? := by by_cases hj0 : j = 0 <;> simp [Addr.add, World.cell?, e3, hj0]
      have h7 : cur.toList[j]? = some (Value.int .u8 l[j]) := by
        have h8 : (cur.toList.take n)[j]? = (l.map (Value.int .u8))[j]? := by rw [← e7]; simp
        rw [List.getElem?_take_of_lt (by simp at h1; omega)] at h8
        rw [h8]; simp [hj]
      rw [h6, ← Array.getElem?_toList, h7]
      have := hx l[j] (List.getElem_mem hj)
      rw [List.getElem_map, u8_of this.1 this.2])
    rw [hn] at this
    exact this

theorem ownsRow_one (w : World) (e : TypeId) (v : Value) : (w.alloc (.cells #[v] e)).ownsRow w.heap.size e 1 (.slice (some ⟨w.heap.size, 0, none⟩) 1 1) 1 [v] :=
  ⟨by simp, .inr ⟨w.heap.size, 1, #[v], rfl, Nat.le_refl _, World.alloc_heap_new w _, Nat.le_refl _, by simp [maxLen], by simp, by simp⟩⟩
end Go.Proofs.Ytllaeakeaabiaaa
/- The library's strings.IndexByte at this program: the place of the first byte alike, or -1. Laid off the shelf's own contract. -/
namespace Go.Proofs.Ytllaeakeaabiaaa
open Go.Shelf Go.RowKit
end Go.Proofs.Ytllaeakeaabiaaa
/- A region that draws its order, in a round of a range over a function: where nothing in it defers it is walked as outside of the round. -/
namespace Go.Proofs.Ytllaeakeaabiaaa
open Go.RowKit
set_option maxRecDepth 100000

theorem oper_round {F : Fence} (hro : F.round = none) {l n : Nat} {P : Program} {o : Oper} {a : Act} {w : World} {next : Act → World → Prop} {Q : Exit → Act → World → Prop} (hs : ∀ c, o.op ≠ .defer c)
    (h : o.wpIn F n P a w next Q) : o.wpIn (F.inRound l) n P a w next Q := by
  unfold Oper.wpIn at *
  refine ⟨h.1, ?_⟩
  have h2 := h.2
  rw [hro, Oper.semAt_none] at h2
  rw [Fence.inRound_round, Oper.semAt_some l _ _ hs]
  generalize (execOp a.eval o).run P w = r at *
  cases r with
  | ok x w' => cases x <;> exact h2
  | halt x w' => cases x <;> exact h2

def noDefer (ops : Array Oper) : Bool := ops.all fun o => match o.op with | .defer _ => false | _ => true
theorem noDefer_at {ops : Array Oper} (h : noDefer ops = true) {i : Nat} {o : Oper} (ho : ops[i]? = some o) : ∀ c, o.op ≠ .defer c := by
  intro c e
  unfold noDefer at h
  rw [Array.all_eq_true] at h
  obtain ⟨hi, rfl⟩ := Array.getElem?_eq_some_iff.1 ho
  have := h i hi
  rw [e] at this
  cases this

theorem opIn_round {F : Fence} (hro : F.round = none) {l n : Nat} {P : Program} {ops : Array Oper} {Q : Exit → Act → World → Prop} (hd : noDefer ops = true) {i : Nat} {K : Act → World → Prop} {a : Act} {w : World}
    (h : wpOpIn F n P ops Q i K a w) : wpOpIn (F.inRound l) n P ops Q i K a w := by
  unfold wpOpIn at *
  cases ho : ops[i]? with
  | none => simp only [ho] at h ⊢; exact h
  | some o =>
    simp only [ho] at h ⊢
    split
    · rename_i hw
      simp only [hw, if_true] at h
      exact oper_round hro (noDefer_at hd ho) h
    · rename_i hw
      simp only [hw] at h
      exact h

theorem anyIn_round {F : Fence} (hro : F.round = none) {l n : Nat} {P : Program} {md : Region.Mode} {ops : Array Oper} {Q : Exit → Act → World → Prop} (hd : noDefer ops = true) :
    ∀ (fuel : Nat) (listed : Array Bool) (a : Act) (w : World), wpAnyIn F n P md ops Q fuel listed a w → wpAnyIn (F.inRound l) n P md ops Q fuel listed a w := by
  intro fuel
  induction fuel with
  | zero => intro listed a w h; exact h
  | succ fuel ih =>
    intro listed a w h
    exact ⟨h.1, fun i hi => opIn_round hro hd (wpOpIn_mono (fun a w => ih _ a w) (h.2 i hi))⟩

/-- The region in a round, from the walk outside of it. -/
theorem region_round {F : Fence} (hro : F.round = none) {l n : Nat} {P : Program} {id : Nat} {ops : Array Oper} {Q : Exit → Act → World → Prop} {a : Act} {w : World} (hm : P.follows .mixedOrders = true) (hd : noDefer ops = true)
    (h : wpAnyIn F n P .any ops Q ops.size (Array.replicate ops.size false) a w.drew) : (Code.region id ops true).wpIn (F.inRound l) n P Q a w :=
  wpIn_region_any hm (anyIn_round hro hd _ _ _ _ h)
end Go.Proofs.Ytllaeakeaabiaaa
/- The library's strings.Clone at this program: it hands back the same bytes. Laid off the shelf's own contract. -/
namespace Go.Proofs.Ytllaeakeaabiaaa
open Go.Shelf Go.RowKit
end Go.Proofs.Ytllaeakeaabiaaa
/- A rule for a region whose operations come in whatever order: what holds of the operations that have come up, of the frame and of the world, is kept by each operation. -/
namespace Go.Proofs.Ytllaeakeaabiaaa
open Go.RowKit
set_option maxRecDepth 100000
set_option linter.unusedSimpArgs false
set_option linter.unusedVariables false

section
variable {P : Program} {ops : Array Oper} {Q : Exit → Act → World → Prop} {md : Region.Mode}

/-- For what operation i waits. -/
def waitsFor (md : Region.Mode) (ops : Array Oper) (i : Nat) : List Nat :=
  match ops[i]? with
  | none => []
  | some o => (o.after.toList.filter (Region.binds md)).map (·.on)

theorem ready_waits {i j : Nat} {l : Array Bool} (h : i ∈ Region.ready md ops l) (hj : (waitsFor md ops i).contains j = true) : l.getD j false = true := by
  obtain ⟨_, o, ho, hall⟩ := mem_ready.1 h
  simp only [waitsFor, ho, List.contains_iff_mem, List.mem_map, List.mem_filter, Array.mem_toList_iff] at hj
  obtain ⟨e, ⟨he, hb⟩, rfl⟩ := hj
  exact hall e he hb

theorem ready_new {i : Nat} {l : Array Bool} (h : i ∈ Region.ready md ops l) (hl : l.size = ops.size) : l.getD i false = false ∧ i < l.size := by
  obtain ⟨h0, o, ho, _⟩ := mem_ready.1 h
  have hi : i < l.size := hl ▸ (Array.getElem?_eq_some_iff.1 ho).1
  simp [hi] at h0 ⊢
  exact h0

theorem ready_lt {i : Nat} {l : Array Bool} (h : i ∈ Region.ready md ops l) : i < ops.size := by
  obtain ⟨_, o, ho, _⟩ := mem_ready.1 h
  exact (Array.getElem?_eq_some_iff.1 ho).1

theorem set_is {i : Nat} {l : Array Bool} (h : i < l.size) : (l.setIfInBounds i true).getD i false = true := by simp [h]

/-- The last one has not come up where another one may still come up: it waits for all. -/
theorem not_last {i n : Nat} {l : Array Bool} (h : i ∈ Region.ready md ops l) (hl : l.size = ops.size) (hn : l.getD n false = true → ∀ j, j < n → l.getD j false = true) (hi : i < n) : l.getD n false = false := by
  cases hh : l.getD n false
  · rfl
  · have := hn hh i hi
    rw [(ready_new h hl).1] at this
    cases this

theorem last_kept {i n : Nat} {l : Array Bool} (h : i ∈ Region.ready md ops l) (hl : l.size = ops.size) (hn : l.getD n false = true → ∀ j, j < n → l.getD j false = true) (hi : i < n) : (l.setIfInBounds i true).getD n false = true → ∀ j, j < n → (l.setIfInBounds i true).getD j false = true := fun hh => by
  rw [getD_set_ne false (by omega), not_last h hl hn hi] at hh
  cases hh

theorem last_comes {n : Nat} {l : Array Bool} (h : n ∈ Region.ready md ops l) (hw : (List.range n).all (fun j => (waitsFor md ops n).contains j) = true) : (l.setIfInBounds n true).getD n false = true → ∀ j, j < n → (l.setIfInBounds n true).getD j false = true := fun _ j hj =>
  getD_set_true (ready_waits h (List.all_eq_true.1 hw j (List.mem_range.2 hj)))

theorem set_or {i j : Nat} {l : Array Bool} (h : (l.setIfInBounds i true).getD j false = true) (hne : i ≠ j) : l.getD j false = true := by
  rw [getD_set_ne false hne] at h; exact h

theorem set_same {i j : Nat} {l : Array Bool} (h : (l.setIfInBounds i true).getD j false = false) : l.getD j false = false := by
  cases hh : l.getD j false
  · rfl
  · rw [getD_set_true hh] at h; exact h

theorem none_left {l : Array Bool} (hl : l.size = ops.size) (h : l.toList.count false = 0) : Region.ready md ops l = [] := by
  apply List.eq_nil_iff_forall_not_mem.2
  intro i hi
  obtain ⟨h1, h2⟩ := ready_new hi hl
  simp [h2] at h1
  have := List.count_eq_zero.1 h
  exact this (by rw [← h1]; exact Array.getElem_mem_toList h2)

theorem wpAny_inv (I : Array Bool → Act → World → Prop)
    (hstep : ∀ l a w i, I l a w → l.size = ops.size → i ∈ Region.ready md ops l → wpOp P ops Q i (fun a' w' => I (l.setIfInBounds i true) a' w') a w)
    (hend : ∀ l a w, I l a w → l.size = ops.size → Region.ready md ops l = [] → Q .normal a w) :
    ∀ (fuel : Nat) (l : Array Bool) (a : Act) (w : World), l.size = ops.size → l.toList.count false ≤ fuel → I l a w → wpAny P md ops Q fuel l a w
  | 0, l, a, w, hl, hc, hI => by
    have h0 := none_left (md := md) hl (Nat.le_zero.1 hc)
    exact ⟨h0, hend l a w hI hl h0⟩
  | fuel + 1, l, a, w, hl, hc, hI => by
    refine ⟨hend l a w hI hl, fun i hi => wpOp_mono (fun a' w' h' => ?_) (hstep l a w i hI hl hi)⟩
    obtain ⟨h1, h2⟩ := ready_new hi hl
    simp [h2] at h1
    refine wpAny_inv I hstep hend fuel _ a' w' (by simpa using hl) ?_ h'
    have h3 : i < l.toList.length := by simpa using h2
    rw [Array.toList_setIfInBounds, List.count_set h3]
    simp [h1] at hc ⊢
    omega

/-- All have come up: none is left that waits for none but such. (For the end: 'all listed' by hand.) -/
theorem region_inv {id : Nat} {a : Act} {w : World} (hm : P.follows .mixedOrders = true) (I : Array Bool → Act → World → Prop)
    (h0 : I (Array.replicate ops.size false) a w.drew)
    (hstep : ∀ l a w i, I l a w → l.size = ops.size → i ∈ Region.ready .any ops l → wpOp P ops Q i (fun a' w' => I (l.setIfInBounds i true) a' w') a w)
    (hend : ∀ l a w, I l a w → l.size = ops.size → Region.ready .any ops l = [] → Q .normal a w) : (Code.region id ops true).wp P Q a w :=
  wp_region_any hm (wpAny_inv I hstep hend _ _ _ _ (by simp) (by simp [List.count_replicate]) h0)

/-- Where the waiting goes only backwards and nobody is ready, all have come up. -/
theorem all_listed {l : Array Bool} (hl : l.size = ops.size) (hw : (List.range ops.size).all (fun i => (waitsFor md ops i).all (· < i)) = true) (h : Region.ready md ops l = []) (i : Nat) (hi : i < ops.size) : l.getD i false = true := by
  induction i using Nat.strongRecOn with
  | _ i ih =>
    cases hh : l.getD i false
    case true => rfl
    exfalso
    have : i ∈ Region.ready md ops l := by
      rw [mem_ready]
      refine ⟨?_, ops[i], by simp [hi], fun e he hb => ?_⟩
      · have hi' : i < l.size := by omega
        simp [hi'] at hh ⊢; exact hh
      · have h1 := List.all_eq_true.1 (List.all_eq_true.1 hw i (List.mem_range.2 hi)) e.on (by
          simp only [waitsFor, Array.getElem?_eq_getElem hi, List.mem_map, List.mem_filter, Array.mem_toList_iff]
          exact ⟨e, ⟨he, hb⟩, rfl⟩)
        have h2 : e.on < i := by simpa using h1
        exact ih e.on h2 (by omega)
    rw [h] at this
    cases this
end
end Go.Proofs.Ytllaeakeaabiaaa
/- The lesser and the greater of two, as the model has them. -/
namespace Go.Proofs.Ytllaeakeaabiaaa
open Go.RowKit
set_option maxRecDepth 100000
set_option linter.unusedSimpArgs false
set_option linter.unusedVariables false
end Go.Proofs.Ytllaeakeaabiaaa
/- Laws on rows of bytes: make, copy from a string that may be too long, and what string(..) of such a row reads. -/
namespace Go.Proofs.Ytllaeakeaabiaaa
open Go.RowKit
set_option maxRecDepth 100000
set_option linter.unusedSimpArgs false
set_option linter.unusedVariables false

/-- The bytes of a string in a new row, and what was there stays. -/
theorem bytes_new1 (W : World) (e : TypeId) (b : ByteArray) : Below W.heap.size W (Lib.bytesWorld W e b) ∧ (Lib.bytesWorld W e b).heap.size = W.heap.size + 1 ∧ Lib.Bytes (Lib.bytesWorld W e b) W.heap.size 0 b := by
  refine ⟨⟨rfl, rfl, rfl, by rw [Lib.bytesWorld_size]; omega, fun k hk => Lib.bytesWorld_at_old W e b k hk⟩, Lib.bytesWorld_size W e b, ?_⟩
  intro i hi
  rw [Nat.zero_add, Lib.bytesWorld_cell W e b i hi]
  have h2 : i < b.data.toList.length := by simpa using hi
  rw [List.getD_eq_getElem?_getD, List.getElem?_eq_getElem h2]
  rfl

theorem bytes_set {W : World} {g o : Nat} {s : ByteArray} (h : Lib.Bytes W g o s) (a : Addr) (v : Value) (ha : a.block ≠ g) : Lib.Bytes (W.setCell a v) g o s := fun i hi => by
  rw [World.cell?_of_block (w := W) (Below.heap_setCell W a v g (fun h => ha h.symm))]
  exact h i hi
theorem bytes_drew {W : World} {g o : Nat} {s : ByteArray} (h : Lib.Bytes W g o s) : Lib.Bytes W.drew g o s := fun i hi => h i hi

theorem extract_size (s : ByteArray) (n : Nat) (h : n ≤ s.size) : (s.extract 0 n).size = n := by
  rw [ByteArray.size_extract]; omega

end Go.Proofs.Ytllaeakeaabiaaa
