/- Several small texts of one level, one behind the other. -/
import Derived.Test.YtfemmnhfllbgjaaGreatDoorQBase
import Derived.Deep.AppendLies
import Derived.Deep.Slices
import Derived.Laws.MakeOwn
import Derived.Handy
import Derived.Deep.QuietTactic
import Derived.BigQuiet
import Derived.Maps.AppendAt
import Derived.Lib.SmallJoins
import Derived.Laws.AppendOwn
import Derived.Laws.IdiomStrings
import Derived.Lib.BufferRead
import Derived.RangeFuncBox
import Derived.WalkLawsBesides
import Derived.RegionTactic
import Derived.Shelf.Lays
import Derived.Shelf.LaysC
import Derived.Shelf.LaysM
import Derived.Shelf.Strconv.Clone
import Derived.Laws.StructEq
import Derived.Maps.Own
/- Rows in memory: what a slice reads as, a row that a call made and owns, and what becomes of both when other blocks turn. -/
namespace Go.Proofs.YtfemmnhfllbgjaaGreatDoor
open Go.RowKit
set_option maxRecDepth 100000
set_option linter.unusedVariables false
set_option linter.unusedSimpArgs false

theorem hide {p : Prop} (h : p) : Hid p := h
/-- The slice v has n elements of 'size' cells, and its cells hold xs. -/
def Reads (w : World) (v : Value) (n size : Nat) (xs : List Value) : Prop :=
  xs.length = n * size ∧ ∃ ad cap, v = .slice ad n cap ∧ n ≤ cap ∧ cap ≤ maxLen ∧
    (0 < n → ∃ b o, ad = some ⟨b, o, none⟩ ∧ b < w.heap.size ∧ ∀ j u, xs[j]? = some u → w.cell? ⟨b, o + j, none⟩ = some u)

/-- Of what was there only blocks from lo up to hi have turned. -/
structure Turn (lo hi : Nat) (w w' : World) : Prop where
  os : w'.os = w.os
  tape : w'.tape = w.tape
  output : w'.output = w.output
  size : w.heap.size ≤ w'.heap.size
  block : ∀ k, k < w.heap.size → (k < lo ∨ hi ≤ k) → w'.heap[k]? = w.heap[k]?

theorem Turn.refl (lo hi : Nat) (w : World) : Turn lo hi w w := ⟨rfl, rfl, rfl, Nat.le_refl _, fun _ _ _ => rfl⟩
theorem Turn.trans {lo hi : Nat} {a b c : World} (h : Turn lo hi a b) (k : Turn lo hi b c) : Turn lo hi a c :=
  ⟨k.os.trans h.os, k.tape.trans h.tape, k.output.trans h.output, Nat.le_trans h.size k.size, fun i hi h' => (k.block i (Nat.lt_of_lt_of_le hi h.size) h').trans (h.block i hi h')⟩
theorem Turn.wide {lo hi lo' hi' : Nat} {a b : World} (h : Turn lo hi a b) (h1 : lo' ≤ lo) (h2 : hi ≤ hi') : Turn lo' hi' a b :=
  ⟨h.os, h.tape, h.output, h.size, fun k hk h' => h.block k hk (by omega)⟩
theorem Turn.cell {lo hi : Nat} {a b : World} (h : Turn lo hi a b) (p o : Nat) (h1 : p < a.heap.size) (h2 : p < lo ∨ hi ≤ p) : b.cell? ⟨p, o, none⟩ = a.cell? ⟨p, o, none⟩ := World.cell?_of_block (h.block p h1 h2)
theorem Turn.frozen {lo hi : Nat} {a b : World} (h : Turn lo hi a b) (p o : Nat) (h1 : p < a.heap.size) (h2 : p < lo ∨ hi ≤ p) : b.frozen? ⟨p, o, none⟩ = a.frozen? ⟨p, o, none⟩ := World.frozen?_of_block (h.block p h1 h2)
theorem Turn.below {lo hi B : Nat} {a b : World} (h : Turn lo hi a b) (h1 : B ≤ lo) (h2 : B ≤ a.heap.size) : Below B a b := ⟨h.os, h.tape, h.output, h.size, fun k hk => h.block k (by omega) (by omega)⟩
theorem turn_of_below {B : Nat} {a b : World} (h : Below B a b) (hi : Nat) : Turn B (max hi a.heap.size) a b := ⟨h.os, h.tape, h.output, h.size, fun k hk h' => h.block k (by omega)⟩
/-- A call that made memory turned nothing. -/
theorem turn_new {a b : World} (h : Below a.heap.size a b) (lo hi : Nat) : Turn lo hi a b := ⟨h.os, h.tape, h.output, h.size, fun k hk _ => h.block k hk⟩
theorem Turn.alloc {lo hi : Nat} {a b : World} (h : Turn lo hi a b) (o : Obj) : Turn lo hi a (b.alloc o) :=
  ⟨h.os, h.tape, h.output, by simp; have := h.size; omega, fun k hk h' => by rw [((Below.refl b.heap.size b).alloc (Nat.le_refl _) o).block k (by have := h.size; omega)]; exact h.block k hk h'⟩
theorem Turn.setCell {lo hi : Nat} {a b : World} (h : Turn lo hi a b) {p : Addr} (v : Value) (h1 : (lo ≤ p.block ∧ p.block < hi) ∨ a.heap.size ≤ p.block) : Turn lo hi a (b.setCell p v) :=
  ⟨h.os, h.tape, h.output, by simp; exact h.size, fun k hk h' => by rw [Below.heap_setCell b p v k (by omega)]; exact h.block k hk h'⟩
theorem Turn.drewN {lo hi : Nat} {a b : World} (h : Turn lo hi a b) (n : Nat) : Turn lo hi a (b.drewN n) := ⟨h.os, h.tape, h.output, h.size, h.block⟩
theorem Turn.drew {lo hi : Nat} {a b : World} (h : Turn lo hi a b) : Turn lo hi a b.drew := ⟨h.os, h.tape, h.output, h.size, h.block⟩
theorem turn_grown {a b : World} {g lo hi : Nat} {row : Option Nat} (h : a.grownBy b row) (hr : ∀ k, row = some k → lo ≤ k ∧ k < hi) : Turn lo hi a b :=
  ⟨h.os, h.tape, h.output, h.size, fun k hk h' => h.block k hk (fun e => by have := hr k e.symm; omega)⟩

theorem gb_refl (w : World) (row : Option Nat) : w.grownBy w row := ⟨rfl, rfl, rfl, Nat.le_refl _, fun _ _ _ => rfl⟩
theorem gb_trans {a b c : World} {row : Option Nat} (h : a.grownBy b row) (k : b.grownBy c row) : a.grownBy c row :=
  ⟨k.os.trans h.os, k.tape.trans h.tape, k.output.trans h.output, Nat.le_trans h.size k.size, fun i hi hr => (k.block i (Nat.lt_of_lt_of_le hi h.size) hr).trans (h.block i hi hr)⟩
theorem gb_set {a b : World} {row : Option Nat} (h : a.grownBy b row) (p : Addr) (v : Value) (hp : row = some p.block) : a.grownBy (b.setCell p v) row :=
  ⟨h.os, h.tape, h.output, by simp; exact h.size, fun k hk hr => by rw [Below.heap_setCell b p v k (fun e => hr (by rw [hp, e]))]; exact h.block k hk hr⟩
theorem gb_drewN {a b : World} {row : Option Nat} (h : a.grownBy b row) (n : Nat) : a.grownBy (b.drewN n) row := ⟨h.os, h.tape, h.output, h.size, h.block⟩
theorem gb_new {a b : World} (h : Below a.heap.size a b) (row : Option Nat) : a.grownBy b row := ⟨h.os, h.tape, h.output, h.size, fun k hk _ => h.block k hk⟩

theorem Reads.kept {w w' : World} {v : Value} {n size : Nat} {xs : List Value} (h : Reads w v n size xs) (hs : w.heap.size ≤ w'.heap.size) (hk : ∀ k, v.ownBlock = some k → k < w.heap.size → w'.heap[k]? = w.heap[k]?) : Reads w' v n size xs := by
  obtain ⟨hl, ad, cap, rfl, h1, h2, h3⟩ := h
  refine ⟨hl, ad, cap, rfl, h1, h2, fun hn => ?_⟩
  obtain ⟨b, o, rfl, hb, hc⟩ := h3 hn
  exact ⟨b, o, rfl, by omega, fun j u hu => by rw [World.cell?_of_block (w := w) (hk b rfl hb)]; exact hc j u hu⟩
theorem Reads.new {w w' : World} {v : Value} {n size : Nat} {xs : List Value} (h : Reads w v n size xs) (hb : Below w.heap.size w w') : Reads w' v n size xs := h.kept hb.size fun k _ hk => hb.block k hk
theorem Reads.turn {lo hi : Nat} {w w' : World} {v : Value} {n size : Nat} {xs : List Value} (h : Reads w v n size xs) (ht : Turn lo hi w w') (hk : ∀ k, v.ownBlock = some k → k < lo ∨ hi ≤ k) : Reads w' v n size xs :=
  h.kept ht.size fun k e hk' => ht.block k hk' (hk k e)
theorem Reads.alloc {w : World} {v : Value} {n size : Nat} {xs : List Value} (h : Reads w v n size xs) (o : Obj) : Reads (w.alloc o) v n size xs := h.kept (by simp) fun k _ hk => ((Below.refl w.heap.size w).alloc (Nat.le_refl _) o).block k hk

theorem reads_of_owns {w : World} {base : Nat} {e : TypeId} {size : Nat} {v : Value} {n : Nat} {xs : List Value} (h : w.ownsRow base e size v n xs) : Reads w v n size xs := by
  refine ⟨h.1, ?_⟩
  rcases h.2 with ⟨rfl, rfl⟩ | ⟨g, cap, cur, rfl, hb, hg, h1, h2, h3, h4⟩
  · exact ⟨none, 0, rfl, Nat.le_refl _, Nat.zero_le _, fun h => absurd h (Nat.lt_irrefl _)⟩
  · refine ⟨some ⟨g, 0, none⟩, cap, rfl, h1, h2, fun hn => ⟨g, 0, rfl, (Array.getElem?_eq_some_iff.1 hg).1, fun j u hu => ?_⟩⟩
    rw [Nat.zero_add, cell_of_row w g j cur e (0, 0) hg]
    rw [← h4, List.getElem?_take] at hu
    split at hu
    · simpa using hu
    · cases hu

theorem owns_kept {w w' : World} {base : Nat} {e : TypeId} {size : Nat} {v : Value} {n : Nat} {xs : List Value} (h : w.ownsRow base e size v n xs) (hk : ∀ k, v.ownBlock = some k → k < w.heap.size → w'.heap[k]? = w.heap[k]?) : w'.ownsRow base e size v n xs := by
  refine ⟨h.1, ?_⟩
  rcases h.2 with hn | ⟨g, cap, cur, rfl, hb, hgg, rest⟩
  · exact .inl hn
  · refine .inr ⟨g, cap, cur, rfl, hb, ?_, rest⟩
    rw [hk g rfl (Array.getElem?_eq_some_iff.1 hgg).1]
    exact hgg
theorem owns_new {w w' : World} {base : Nat} {e : TypeId} {size : Nat} {v : Value} {n : Nat} {xs : List Value} (h : w.ownsRow base e size v n xs) (hb : Below w.heap.size w w') : w'.ownsRow base e size v n xs := owns_kept h fun k _ hk => hb.block k hk
theorem owns_turn {lo hi : Nat} {w w' : World} {base : Nat} {e : TypeId} {size : Nat} {v : Value} {n : Nat} {xs : List Value} (h : w.ownsRow base e size v n xs) (ht : Turn lo hi w w') (hk : ∀ k, v.ownBlock = some k → k < lo ∨ hi ≤ k) : w'.ownsRow base e size v n xs :=
  owns_kept h fun k e hk' => ht.block k hk' (hk k e)
theorem owns_base {w : World} {base base' : Nat} {e : TypeId} {size : Nat} {v : Value} {n : Nat} {xs : List Value} (h : w.ownsRow base e size v n xs) (hb : ∀ k, v.ownBlock = some k → base' ≤ k) : w.ownsRow base' e size v n xs := by
  refine ⟨h.1, ?_⟩
  rcases h.2 with hn | ⟨g, cap, cur, rfl, _, rest⟩
  · exact .inl hn
  · exact .inr ⟨g, cap, cur, rfl, hb g rfl, rest⟩
theorem owns_far {w : World} {base : Nat} {e : TypeId} {size : Nat} {v : Value} {n : Nat} {xs : List Value} (B : Nat) (h : w.ownsRow base e size v n xs) (hv : ∀ k, v.ownBlock = some k → B ≤ k) (p : Addr) (u : Value) (hp : p.block < B) : (w.setCell p u).ownsRow base e size v n xs :=
  owns_kept h fun k hk _ => Below.heap_setCell w p u k (by have := hv k hk; omega)
theorem owns_apart {w : World} {base : Nat} {e : TypeId} {size : Nat} {v : Value} {n : Nat} {xs : List Value} (h : w.ownsRow base e size v n xs) (p : Addr) (u : Value) (hp : v.ownBlock ≠ some p.block) : (w.setCell p u).ownsRow base e size v n xs :=
  owns_kept h fun k hk _ => Below.heap_setCell w p u k (fun e => hp (by rw [hk, e]))
/-- One cell of a row that is owned is set. -/
theorem owns_set {w : World} {base : Nat} {e : TypeId} {size : Nat} {v : Value} {n : Nat} {xs : List Value} (h : w.ownsRow base e size v n xs) {g : Nat} (hg : v.ownBlock = some g) (j : Nat) (u : Value) : (w.setCell ⟨g, j, none⟩ u).ownsRow base e size v n (xs.set j u) := by
  refine ⟨by simp [h.1], ?_⟩
  rcases h.2 with ⟨rfl, _⟩ | ⟨g', cap, cur, rfl, hb, hgg, h1, h2, h3, h4⟩
  · simp [Value.ownBlock] at hg
  · simp [Value.ownBlock] at hg
    subst hg
    refine .inr ⟨g', cap, cur.setIfInBounds j u, rfl, hb, ?_, h1, h2, by simp [h3], ?_⟩
    · simp [World.setCell, Array.getElem?_modify, hgg]
    · rw [← h4]; simp [List.take_set]
/-- What the walk wants of a row that is owned: where it lies, its cells, its marks. -/
theorem owns_open {w : World} {base : Nat} {e : TypeId} {size : Nat} {v : Value} {n : Nat} {xs : List Value} (h : w.ownsRow base e size v n xs) (hn : 0 < n) : ∃ g cap, v = .slice (some ⟨g, 0, none⟩) n cap ∧ v.ownBlock = some g ∧ base ≤ g ∧ g < w.heap.size ∧ n ≤ cap ∧ cap ≤ maxLen ∧
    (∀ j u, xs[j]? = some u → w.cell? ⟨g, j, none⟩ = some u) ∧ ∀ j, w.frozen? ⟨g, j, none⟩ = false := by
  rcases h.2 with ⟨rfl, rfl⟩ | ⟨g, cap, cur, rfl, hb, hgg, h1, h2, h3, h4⟩
  · exact absurd hn (Nat.lt_irrefl _)
  · refine ⟨g, cap, rfl, rfl, hb, (Array.getElem?_eq_some_iff.1 hgg).1, h1, h2, fun j u hu => ?_, fun j => by simp [World.frozen?, hgg]⟩
    rw [cell_of_row w g j cur e (0, 0) hgg]
    rw [← h4, List.getElem?_take] at hu
    split at hu
    · simpa using hu
    · cases hu
theorem owns_form {w : World} {base : Nat} {e : TypeId} {size : Nat} {v : Value} {n : Nat} {xs : List Value} (h : w.ownsRow base e size v n xs) : ∃ ad cap, v = .slice ad n cap ∧ n ≤ cap ∧ cap ≤ maxLen := by
  obtain ⟨_, ad, cap, h1, h2, h3, _⟩ := reads_of_owns h
  exact ⟨ad, cap, h1, h2, h3⟩
theorem owns_lt {w : World} {base : Nat} {e : TypeId} {size : Nat} {v : Value} {n : Nat} {xs : List Value} (h : w.ownsRow base e size v n xs) : ∀ k, v.ownBlock = some k → base ≤ k ∧ k < w.heap.size := h.lt

/-- Element i of rows laid one behind the other. -/
theorem flat_get {α : Type} (f : α → List Value) (s : Nat) (hf : ∀ x, (f x).length = s) (L : List α) (i : Nat) (hi : i < L.length) (r : Nat) (hr : r < s) : (L.flatMap f)[i * s + r]? = (f L[i])[r]? := by
  induction L generalizing i with
  | nil => exact absurd hi (Nat.not_lt_zero _)
  | cons x L ih =>
    cases i with
    | zero => simp only [List.flatMap_cons, Nat.zero_mul, Nat.zero_add]; rw [List.getElem?_append_left (by rw [hf]; omega)]; rfl
    | succ i =>
      simp only [List.flatMap_cons]
      rw [List.getElem?_append_right (by rw [hf, Nat.succ_mul]; omega), hf, show (i + 1) * s + r - s = i * s + r by rw [Nat.succ_mul]; omega]
      simpa using ih i (by simpa using hi)
theorem flat_length {α : Type} (f : α → List Value) (s : Nat) (hf : ∀ x, (f x).length = s) (L : List α) : (L.flatMap f).length = L.length * s := by
  induction L with
  | nil => simp
  | cons x L ih => simp only [List.flatMap_cons, List.length_append, List.length_cons, hf, ih, Nat.succ_mul]; omega
theorem flat_set {α : Type} (f : α → List Value) (s : Nat) (hf : ∀ x, (f x).length = s) (L : List α) (i : Nat) (hi : i < L.length) (r : Nat) (hr : r < s) (u : Value) (y : α) (hy : f y = (f L[i]).set r u) : (L.flatMap f).set (i * s + r) u = (L.set i y).flatMap f := by
  induction L generalizing i with
  | nil => exact absurd hi (Nat.not_lt_zero _)
  | cons x L ih =>
    cases i with
    | zero =>
      simp only [List.flatMap_cons, Nat.zero_mul, Nat.zero_add, List.set_cons_zero]
      rw [List.set_append_left _ _ (by rw [hf]; omega), hy]; rfl
    | succ i =>
      simp only [List.flatMap_cons, List.set_cons_succ]
      rw [List.set_append_right _ _ (by rw [hf, Nat.succ_mul]; omega), hf, show (i + 1) * s + r - s = i * s + r by rw [Nat.succ_mul]; omega]
      rw [ih i (by simpa using hi) (by simpa using hy)]
theorem int_eq {a b : Int} (h : a = b) : Value.int .i64 a = .int .i64 b := by rw [h]
theorem pre_set {xs ys : List Value} {m : Nat} {a : Value} (m' : Nat) (h : ∀ j, j < m → xs[j]? = ys[j]?) (hy : ys[m]? = some a) (hm : m < xs.length) (hm' : m' = m + 1) : ∀ j, j < m' → (xs.set m a)[j]? = ys[j]? := by
  intro j hj
  subst hm'
  rw [List.getElem?_set]
  split
  · rename_i h'; subst h'; simp [hy, hm]
  · exact h j (by omega)
theorem pre_end {xs ys : List Value} {m : Nat} (hx : xs.length = m) (hy : ys.length = m) (h : ∀ j, j < m → xs[j]? = ys[j]?) : xs = ys := List.ext_getElem? fun j => by
  by_cases hj : j < m
  · exact h j hj
  · rw [List.getElem?_eq_none (by omega), List.getElem?_eq_none (by omega)]
end Go.Proofs.YtfemmnhfllbgjaaGreatDoor
/- Regions that draw their order and hold calls that make memory: one walk in the order of the text serves them all. -/
namespace Go.Proofs.YtfemmnhfllbgjaaGreatDoor
open Go.RowKit
set_option maxRecDepth 100000
set_option linter.unusedVariables false

/-- A world behind V: of what was in V nothing has turned. -/
structure Later (V : World) where
  w : World
  b : Below V.heap.size V w
theorem later_calls {P : Program} {f : FuncId} {args : Array Value} {V : World} {x : Later V} {v : Value} (h : Calls P f args x.w fun e w' => e = .returned v ∧ Below x.w.heap.size x.w w') :
    Calls P f args x.w fun e w'' => e = .returned v ∧ ∃ y : Later V, w'' = y.w := h.mono fun _ w' h => ⟨h.1, ⟨w', bchain x.b h.2⟩, rfl⟩
theorem later_same {P : Program} {f : FuncId} {args : Array Value} {V : World} {x : Later V} {v : Value} (h : Calls P f args x.w fun e w' => e = .returned v ∧ w' = x.w) :
    Calls P f args x.w fun e w'' => e = .returned v ∧ ∃ y : Later V, w'' = y.w := h.mono fun _ w' h => ⟨h.1, x, h.2⟩
/-- A region that draws its order, whose operations read and whose callees may make memory: one walk in the text's order serves every order. -/
theorem region_later {P : Program} {id : Nat} {Q : Exit → Act → World → Prop} {a : Act} {w : World} {l : List Oper} (hm : P.follows .mixedOrders = true) (hB : Region.lexB .any l.toArray = true)
    (h : wpQuiet P l.toArray (fun w' => ∃ x : Later w, w' = x.w) (fun a' => ∀ w', (∃ x : Later w, w' = x.w) → Q .normal a' w') l a) : (Code.region id l.toArray true).wp P Q a w :=
  wp_region_quiet (C := fun w' => ∃ x : Later w, w' = x.w) hm hB ⟨⟨w.drewN 1, bo_drewN 1 (Below.refl _ _)⟩, rfl⟩ (by simpa using h)

end Go.Proofs.YtfemmnhfllbgjaaGreatDoor
/- Texts out of rows of bytes. -/
namespace Go.Proofs.YtfemmnhfllbgjaaGreatDoor
open Go.RowKit
set_option maxRecDepth 100000
set_option linter.unusedSimpArgs false
set_option linter.unusedVariables false

/-- A text out of numbers. -/
def strOf (l : List Int) : ByteArray := ⟨(l.map fun z => UInt8.ofNat z.toNat).toArray⟩
theorem strOf_size (l : List Int) : (strOf l).size = l.length := by simp [strOf, ByteArray.size]
theorem u8_of {z : Int} (h0 : 0 ≤ z) (h1 : z ≤ 255) : ((UInt8.ofNat z.toNat).toNat : Int) = z := by simp [UInt8.toNat_ofNat']; omega

theorem row_string {W : World} {base n : Nat} {v : Value} {l : List Int} (hown : W.ownsRow base 5 1 v n (l.map (Value.int .u8))) (hx : ∀ x ∈ l, 0 ≤ x ∧ x ≤ 255) :
    (convert 22 9 v).run Tryz.prog W = .ok (.string (strOf l)) W := by
  obtain ⟨h1, h2⟩ := hown
  rcases h2 with ⟨rfl, rfl⟩ | ⟨b, cap, cur, rfl, e2, e3, e4, e5, e6, e7⟩
  · have : l = [] := by simpa using h1
    subst this
    simpa [strOf] using Lib.run_convert_nil_bytes (P := Tryz.prog) W 22 9 5 0 Tryz.underlying22 Tryz.underlying5 Tryz.underlying9
  · have hn : (l.map fun z => UInt8.ofNat z.toNat).length = n := by simp at h1 ⊢; omega
    have := run_convert_bytes_back (P := Tryz.prog) W 22 9 5 ⟨b, 0, none⟩ cap (l.map fun z => UInt8.ofNat z.toNat) Tryz.underlying22 Tryz.underlying5 Tryz.underlying9 (fun j hjl => by
      have hj : j < l.length := by simpa using hjl
      have h6 : W.cell? ((⟨b, 0, none⟩ : Addr).add j) = cur[j]? := by by_cases hj0 : j = 0 <;> simp [Addr.add, World.cell?, e3, hj0]
      have h7 : cur.toList[j]? = some (Value.int .u8 l[j]) := by
        have h8 : (cur.toList.take n)[j]? = (l.map (Value.int .u8))[j]? := by rw [← e7]; simp
        rw [List.getElem?_take_of_lt (by simp at h1; omega)] at h8
        rw [h8]; simp [hj]
      rw [h6, ← Array.getElem?_toList, h7]
      have := hx l[j] (List.getElem_mem hj)
      rw [List.getElem_map, u8_of this.1 this.2])
    rw [hn] at this
    exact this

theorem ownsRow_one (w : World) (e : TypeId) (v : Value) : (w.alloc (.cells #[v] e)).ownsRow w.heap.size e 1 (.slice (some ⟨w.heap.size, 0, none⟩) 1 1) 1 [v] :=
  ⟨by simp, .inr ⟨w.heap.size, 1, #[v], rfl, Nat.le_refl _, World.alloc_heap_new w _, Nat.le_refl _, by simp [maxLen], by simp, by simp⟩⟩
end Go.Proofs.YtfemmnhfllbgjaaGreatDoor
/- What is in range: the program's word for it and the model's. -/
namespace Go.Proofs.YtfemmnhfllbgjaaGreatDoor
open Go.RowKit
set_option maxRecDepth 100000
set_option linter.unusedSimpArgs false
set_option linter.unusedVariables false

/-- Is x from lo to hi? -/
def inB (x lo hi : Int) : Bool := decide (lo ≤ x ∧ x ≤ hi)
theorem inB_true {x lo hi : Int} (h : inB x lo hi = true) : lo ≤ x ∧ x ≤ hi := of_decide_eq_true h
theorem inB_of {x lo hi : Int} (h : lo ≤ x) (h' : x ≤ hi) : inB x lo hi = true := decide_eq_true ⟨h, h'⟩
theorem inB_not {x lo hi : Int} (h : ¬ (lo ≤ x ∧ x ≤ hi)) : inB x lo hi = false := decide_eq_false h
theorem inB_false {x lo hi : Int} (h : inB x lo hi = false) : ¬ (lo ≤ x ∧ x ≤ hi) := of_decide_eq_false h

theorem implWithin (x lo hi : Int) (w : World) : Calls Tryz.prog 30 #[.int .i64 x, .int .i64 lo, .int .i64 hi] w fun e w' => e = .returned (.bool (inB x lo hi)) ∧ w' = w := by
  by_cases h1 : lo ≤ x
  · by_cases h2 : x ≤ hi
    · have : inB x lo hi = true := decide_eq_true ⟨h1, h2⟩
      rw [this]
      go_enter Tryz.func30, Tryz.ntmps30
      go_wp2_with fail
      go_ret
      simp
    · have : inB x lo hi = false := decide_eq_false (by omega)
      rw [this]
      go_enter Tryz.func30, Tryz.ntmps30
      go_wp2_with fail
      go_ret
      simp
  · have : inB x lo hi = false := decide_eq_false (by omega)
    rw [this]
    go_enter Tryz.func30, Tryz.ntmps30
    go_wp2_with fail
    go_ret
    simp

theorem specIn (x lo hi : Int) (w : World) : Calls Tryz.prog 46 #[.int .i64 x, .int .i64 lo, .int .i64 hi] w fun e w' => e = .returned (.bool (inB x lo hi)) ∧ w' = w := by
  by_cases h1 : lo ≤ x
  · by_cases h2 : x ≤ hi
    · have : inB x lo hi = true := decide_eq_true ⟨h1, h2⟩
      rw [this]
      go_enter Tryz.func46, Tryz.ntmps46
      go_wp2_with fail
      go_ret
      simp
    · have : inB x lo hi = false := decide_eq_false (by omega)
      rw [this]
      go_enter Tryz.func46, Tryz.ntmps46
      go_wp2_with fail
      go_ret
      simp
  · have : inB x lo hi = false := decide_eq_false (by omega)
    rw [this]
    go_enter Tryz.func46, Tryz.ntmps46
    go_wp2_with fail
    go_ret
    simp
end Go.Proofs.YtfemmnhfllbgjaaGreatDoor
/- The cursor from which the laws draw their inputs: what its functions do to memory, and in what range they answer. -/
namespace Go.Proofs.YtfemmnhfllbgjaaGreatDoor
open Go.RowKit
set_option maxRecDepth 100000
set_option linter.unusedSimpArgs false
set_option linter.unusedVariables false

/-- Of what was there nothing has turned but block g. -/
structure Moves (g : Nat) (w w' : World) : Prop where
  os : w'.os = w.os
  tape : w'.tape = w.tape
  output : w'.output = w.output
  size : w.heap.size ≤ w'.heap.size
  block : ∀ k, k < w.heap.size → k ≠ g → w'.heap[k]? = w.heap[k]?

theorem Moves.refl (g : Nat) (w : World) : Moves g w w := ⟨rfl, rfl, rfl, Nat.le_refl _, fun _ _ _ => rfl⟩
theorem Moves.trans {g : Nat} {a b c : World} (h : Moves g a b) (k : Moves g b c) : Moves g a c :=
  ⟨k.os.trans h.os, k.tape.trans h.tape, k.output.trans h.output, Nat.le_trans h.size k.size, fun i hi hg => (k.block i (Nat.lt_of_lt_of_le hi h.size) hg).trans (h.block i hi hg)⟩
theorem Moves.of_below {g : Nat} {a b : World} (h : Below a.heap.size a b) : Moves g a b := ⟨h.os, h.tape, h.output, h.size, fun k hk _ => h.block k hk⟩
theorem Moves.drewN {g : Nat} {a b : World} (n : Nat) (h : Moves g a b) : Moves g a (b.drewN n) := ⟨h.os, h.tape, h.output, h.size, h.block⟩
theorem Moves.drew {g : Nat} {a b : World} (h : Moves g a b) : Moves g a b.drew := ⟨h.os, h.tape, h.output, h.size, h.block⟩
theorem Moves.alloc {g : Nat} {a b : World} (h : Moves g a b) (o : Obj) : Moves g a (b.alloc o) := h.trans (Moves.of_below (Joins.below_alloc1 b o))
theorem Moves.set {g : Nat} {a b : World} (h : Moves g a b) (o : Nat) (v : Value) : Moves g a (b.setCell ⟨g, o, none⟩ v) :=
  h.trans ⟨rfl, rfl, rfl, by simp, fun k _ hg => Below.heap_setCell b ⟨g, o, none⟩ v k hg⟩
/-- A store into a block that the call itself made. -/
theorem Moves.setNew {g : Nat} {a b : World} (h : Moves g a b) (p : Addr) (hp : a.heap.size ≤ p.block) (v : Value) : Moves g a (b.setCell p v) :=
  ⟨h.os, h.tape, h.output, by simpa using h.size, fun k hk hg => (Below.heap_setCell b p v k (by omega)).trans (h.block k hk hg)⟩
theorem Moves.below {g B : Nat} {a b : World} (h : Moves g a b) (h1 : B ≤ g) (h2 : B ≤ a.heap.size) : Below B a b := ⟨h.os, h.tape, h.output, h.size, fun k hk => h.block k (by omega) (by omega)⟩
theorem Moves.cell {g : Nat} {a b : World} (h : Moves g a b) (k o : Nat) (h1 : k < a.heap.size) (h2 : k ≠ g) : b.cell? ⟨k, o, none⟩ = a.cell? ⟨k, o, none⟩ := World.cell?_of_block (w := a) (h.block k h1 h2)
theorem Moves.frozen {g : Nat} {a b : World} (h : Moves g a b) (k o : Nat) (h1 : k < a.heap.size) (h2 : k ≠ g) : b.frozen? ⟨k, o, none⟩ = a.frozen? ⟨k, o, none⟩ := World.frozen?_of_block (w := a) (h.block k h1 h2)

/-- The bytes of the draw, in blocks below B. -/
def CodeAt (w : World) (a : Option Addr) (len B : Nat) : Prop := ∀ j, j < len → ∃ (b o : Nat) (z : Int), a = some ⟨b, o, none⟩ ∧ b < B ∧ 0 ≤ z ∧ z ≤ 255 ∧ w.cell? ⟨b, o + j, none⟩ = some (.int .u8 z)

theorem CodeAt.kept {w w' : World} {a : Option Addr} {len B : Nat} (h : CodeAt w a len B) (hb : Below B w w') : CodeAt w' a len B := fun j hj => by
  obtain ⟨b, o, z, h1, h2, h3, h4, h5⟩ := h j hj
  exact ⟨b, o, z, h1, h2, h3, h4, by rw [hb.cell (p := ⟨b, o + j, none⟩) h2]; exact h5⟩

/-- A cursor at block g over bytes in blocks below B. -/
def Cur (w : World) (g B : Nat) : Prop := B ≤ g ∧ ∃ (a : Option Addr) (len cap i : Nat) (h : Int), len ≤ 4096 ∧ i ≤ len ∧ CodeAt w a len B ∧ w.heap[g]? = some (.cells #[.slice a len cap, .int .i64 i, .int .i64 h] 80 (0, 0))

theorem Cur.lt {w : World} {g B : Nat} (h : Cur w g B) : g < w.heap.size := by
  obtain ⟨_, a, len, cap, i, hh, _, _, _, hg⟩ := h
  exact (Array.getElem?_eq_some_iff.1 hg).1

/-- Whatever leaves the cursor's block and what lies below B as it is keeps the cursor. -/
theorem Cur.kept {w w' : World} {g B : Nat} (h : Cur w g B) (hb : Below (g + 1) w w') : Cur w' g B := by
  obtain ⟨h0, a, len, cap, i, hh, h1, h2, h3, hg⟩ := h
  exact ⟨h0, a, len, cap, i, hh, h1, h2, h3.kept (hb.mono (by omega)), by rw [hb.block g (by omega)]; exact hg⟩


theorem Cur.drewN {w : World} {g B : Nat} (h : Cur w g B) (q : Nat) : Cur (w.drewN q) g B := h.kept ⟨rfl, rfl, rfl, Nat.le_refl _, fun _ _ => rfl⟩
theorem Cur.drew {w : World} {g B : Nat} (h : Cur w g B) : Cur w.drew g B := h.kept ⟨rfl, rfl, rfl, Nat.le_refl _, fun _ _ => rfl⟩
theorem Cur.alloc {w : World} {g B : Nat} (h : Cur w g B) (o : Obj) : Cur (w.alloc o) g B := h.kept ((Joins.below_alloc1 w o).mono h.lt)
theorem Cur.set {w : World} {g B : Nat} (h : Cur w g B) (p : Addr) (v : Value) (hp : g < p.block) : Cur (w.setCell p v) g B :=
  h.kept ⟨rfl, rfl, rfl, by simp, fun k hk => Below.heap_setCell w p v k (by omega)⟩
theorem Cur.below {w w' : World} {g B : Nat} (h : Cur w g B) (hb : Below w.heap.size w w') : Cur w' g B := h.kept (hb.mono h.lt)

theorem Cur.step0 {w : World} {g B : Nat} (h0 : B ≤ g) {a : Option Addr} {len cap i : Nat} {h : Int} (h1 : len ≤ 4096) (h2 : i ≤ len) (h3 : CodeAt w a len B)
    (hg : w.heap[g]? = some (.cells #[.slice a len cap, .int .i64 i, .int .i64 h] 80 (0, 0))) (H : Int) (q : Nat) :
    Cur ((w.setCell ⟨g, 2, none⟩ (.int .i64 H)).drewN q) g B ∧ Moves g w ((w.setCell ⟨g, 2, none⟩ (.int .i64 H)).drewN q) := by
  have m := ((Moves.refl g w).set 2 (.int .i64 H)).drewN q
  refine ⟨⟨h0, a, len, cap, i, H, h1, h2, h3.kept (m.below h0 (by have := (Array.getElem?_eq_some_iff.1 hg).1; omega)), ?_⟩, m⟩
  have := Joins.block_setCell (i := 2) hg (.int .i64 H)
  simpa using this

theorem Cur.step1 {w : World} {g B : Nat} (h0 : B ≤ g) {a : Option Addr} {len cap i : Nat} {h : Int} (h1 : len ≤ 4096) (h3 : CodeAt w a len B)
    (hg : w.heap[g]? = some (.cells #[.slice a len cap, .int .i64 i, .int .i64 h] 80 (0, 0))) (H : Int) (q i' : Nat) (z : Int) (hz : z = i') (hi : i' ≤ len) :
    Cur (((w.setCell ⟨g, 2, none⟩ (.int .i64 H)).drewN q).setCell ⟨g, 1, none⟩ (.int .i64 z)) g B ∧ Moves g w (((w.setCell ⟨g, 2, none⟩ (.int .i64 H)).drewN q).setCell ⟨g, 1, none⟩ (.int .i64 z)) := by
  subst hz
  have m := (((Moves.refl g w).set 2 (.int .i64 H)).drewN q).set 1 (.int .i64 (i' : Int))
  refine ⟨⟨h0, a, len, cap, i', H, h1, hi, h3.kept (m.below h0 (by have := (Array.getElem?_eq_some_iff.1 hg).1; omega)), ?_⟩, m⟩
  have h5 : ((w.setCell ⟨g, 2, none⟩ (.int .i64 H)).drewN q).heap[g]? = some (.cells #[.slice a len cap, .int .i64 i, .int .i64 H] 80 (0, 0)) := by
    have := Joins.block_setCell (i := 2) hg (.int .i64 H)
    simpa using this
  have := Joins.block_setCell (i := 1) h5 (.int .i64 (i' : Int))
  simpa using this

theorem and255 (n : Int) : bits .and .i64 n 255 = n % 256 := by
  have h255 : (BitVec.ofInt 64 255).toNat = 2 ^ 8 - 1 := by decide
  have key : (BitVec.ofInt 64 n &&& BitVec.ofInt 64 255).toNat = (n % ((2 ^ 64 : Nat) : Int)).toNat % 2 ^ 8 := by
    rw [BitVec.toNat_and, BitVec.toNat_ofInt, h255, Nat.and_two_pow_sub_one_eq_mod]
  show IntKind.i64.wrap ((BitVec.ofInt 64 n &&& BitVec.ofInt 64 255).toNat : Nat) = n % 256
  rw [key, IntKind.wrap_i64]
  omega

theorem and255_lo (n : Int) : 0 ≤ bits .and .i64 n 255 := by rw [and255]; omega
theorem and255_hi (n : Int) : bits .and .i64 n 255 ≤ 255 := by rw [and255]; omega

set_option maxHeartbeats 400000 in
theorem byte1 (g B : Nat) (w : World) (hc : Cur w g B) :
    Calls Tryz.prog 76 #[.pointer (some ⟨g, 0, none⟩)] w fun e w' => ∃ x : Int, 0 ≤ x ∧ x ≤ 255 ∧ e = .returned (.int .i64 x) ∧ Cur w' g B ∧ Moves g w w' := by
  obtain ⟨h0, a, len, cap, i, h, h1, h2, h3, hg⟩ := hc
  have c0 := Joins.cell_of_block hg 0
  have c1 := Joins.cell_of_block hg 1
  have c2 := Joins.cell_of_block hg 2
  have f1 := Joins.unfrozen_of_block hg 1
  have f2 := Joins.unfrozen_of_block hg 2
  simp at c0 c1 c2
  by_cases hlt : i < len
  · obtain ⟨b, o, z, rfl, hb, z0, z1, hz⟩ := h3 i hlt
    have hne : b ≠ g := by omega
    go_enter Tryz.func76, Tryz.ntmps76
    go_wp2_with fail
    go_quiet (fail)
    go_wp2_with fail
    go_quiet (fail)
    go_wp2_with fail
    go_quiet (fail)
    go_wp2_with fail
    go_ret
    exact ⟨_, and255_lo _, and255_hi _, rfl, Cur.step1 h0 h1 h3 hg _ _ (i + 1) _ (by simp) (by omega)⟩
  · have hge : ¬ ((i : Int) < (len : Int)) := by omega
    go_enter Tryz.func76, Tryz.ntmps76
    go_wp2_with fail
    go_quiet (fail)
    go_wp2_with fail
    go_quiet (fail)
    go_wp2_with fail
    go_ret
    exact ⟨_, and255_lo _, and255_hi _, rfl, (Cur.step0 h0 h1 h2 h3 hg _ _).1.drewN _, (Cur.step0 h0 h1 h2 h3 hg _ _).2.drewN _⟩

theorem emod_lt_of {x n : Int} (h0 : 0 ≤ x) (hn : 0 < n) : 0 ≤ x % n ∧ x % n < n := ⟨Int.emod_nonneg _ (by omega), Int.emod_lt_of_pos _ hn⟩

theorem below1 (g B : Nat) (n : Int) (w : World) (hc : Cur w g B) (hn : n ≤ 1000000000) :
    Calls Tryz.prog 60 #[.pointer (some ⟨g, 0, none⟩), .int .i64 n] w fun e w' => ∃ x : Int, 0 ≤ x ∧ (0 < n → x < n) ∧ (n ≤ 0 → x = 0) ∧ e = .returned (.int .i64 x) ∧ Cur w' g B ∧ Moves g w w' := by
  by_cases h0 : n ≤ 0
  · go_enter Tryz.func60, Tryz.ntmps60
    go_wp2_with fail
    go_ret
    exact ⟨0, by omega, by omega, by omega, rfl, hc, Moves.refl _ _⟩
  · by_cases h1 : n ≤ 256
    · go_enter Tryz.func60, Tryz.ntmps60
      go_wp2_with fail
      refine (byte1 g B _ hc).mono ?_; rintro e w1 ⟨x, x0, x1, rfl, hc1, hm1⟩
      go_wp2_with fail
      go_ret
      exact ⟨_, (emod_lt_of x0 (by omega)).1, fun _ => (emod_lt_of x0 (by omega)).2, by omega, rfl, hc1, hm1⟩
    · go_enter Tryz.func60, Tryz.ntmps60
      go_wp2_with fail
      refine (byte1 g B _ hc).mono ?_; rintro e w1 ⟨x, x0, x1, rfl, hc1, hm1⟩
      go_wp2_with fail
      refine (byte1 g B _ hc1).mono ?_; rintro e w2 ⟨y, y0, y1, rfl, hc2, hm2⟩
      go_wp2_with fail
      refine (byte1 g B _ hc2).mono ?_; rintro e w3 ⟨z, z0, z1, rfl, hc3, hm3⟩
      go_wp2_with fail
      refine (byte1 g B _ hc3).mono ?_; rintro e w4 ⟨v, v0, v1, rfl, hc4, hm4⟩
      go_wp2_with fail
      go_ret
      exact ⟨_, (emod_lt_of (by omega) (by omega)).1, fun _ => (emod_lt_of (by omega) (by omega)).2, by omega, rfl, hc4, ((hm1.trans hm2).trans hm3).trans hm4⟩

theorem once1 (g B : Nat) (n : Int) (w : World) (hc : Cur w g B) (hn : n ≤ 1000000000) :
    Calls Tryz.prog 58 #[.pointer (some ⟨g, 0, none⟩), .int .i64 n] w fun e w' => ∃ v : Bool, e = .returned (.bool v) ∧ Cur w' g B ∧ Moves g w w' := by
  go_enter Tryz.func58, Tryz.ntmps58
  go_wp2_with fail
  refine (below1 g B n _ hc hn).mono ?_; rintro e w1 ⟨x, x0, x1, x2, rfl, hc1, hm1⟩
  go_wp2_with fail
  go_ret
  exact ⟨_, rfl, hc1, hm1⟩

theorem Cur.new (w : World) (a : Option Addr) (len cap : Nat) (H : Int) (hl : len ≤ 4096) (hc : CodeAt w a len w.heap.size) :
    Cur (w.alloc (.cells #[.slice a len cap, .int .i64 0, .int .i64 H] 80)) w.heap.size w.heap.size :=
  ⟨Nat.le_refl _, a, len, cap, 0, H, hl, Nat.zero_le _, hc.kept (Joins.below_alloc1 w _), heap_alloc_new w _⟩

set_option maxHeartbeats 400000 in
theorem new1 (a : Option Addr) (len cap : Nat) (w : World) (hl : len ≤ 4096) (hcode : CodeAt w a len w.heap.size) :
    Calls Tryz.prog 25 #[.slice a len cap] w fun e w' => ∃ g : Nat, e = .returned (.pointer (some ⟨g, 0, none⟩)) ∧ w.heap.size ≤ g ∧ Cur w' g w.heap.size ∧ Below w.heap.size w w' := by
  go_enter Tryz.func25, Tryz.ntmps25
  go_wp2_with fail
  go_loop [3, 4] (fun h i => ∃ (k : Nat) (H : Int), k ≤ len ∧ i = .int .i64 k ∧ h = .int .i64 H) (fun _ i => len - (intOf i).toNat)
  case atStart => exact ⟨0, _, Nat.zero_le _, rfl, rfl⟩
  case round =>
    obtain ⟨k, H, hk, rfl, rfl⟩ := hrel
    by_cases hlt : k < len
    · obtain ⟨b, o, z, rfl, hb, z0, z1, hz⟩ := hcode k hlt
      have hz' : w.cell? ⟨b, o + (k : Int).toNat, none⟩ = some (.int .u8 z) := by simpa using hz
      go_wp2_with fail
      go_round
      case rel => exact ⟨k + 1, _, by omega, by go_num, rfl⟩
      case measure => simp [intOf]; omega
    · go_wp2_with fail
      go_ret
      exact ⟨_, rfl, Nat.le_refl _, Cur.new w a len cap _ hl hcode, Joins.below_alloc1 w _⟩
end Go.Proofs.YtfemmnhfllbgjaaGreatDoor
/- A rule for a region whose operations come in whatever order: what holds of the operations that have come up, of the frame and of the world, is kept by each operation. -/
namespace Go.Proofs.YtfemmnhfllbgjaaGreatDoor
open Go.RowKit
set_option maxRecDepth 100000
set_option linter.unusedSimpArgs false
set_option linter.unusedVariables false

section
variable {P : Program} {ops : Array Oper} {Q : Exit → Act → World → Prop} {md : Region.Mode}

/-- For what operation i waits. -/
def waitsFor (md : Region.Mode) (ops : Array Oper) (i : Nat) : List Nat :=
  match ops[i]? with
  | none => []
  | some o => (o.after.toList.filter (Region.binds md)).map (·.on)

theorem ready_waits {i j : Nat} {l : Array Bool} (h : i ∈ Region.ready md ops l) (hj : (waitsFor md ops i).contains j = true) : l.getD j false = true := by
  obtain ⟨_, o, ho, hall⟩ := mem_ready.1 h
  simp only [waitsFor, ho, List.contains_iff_mem, List.mem_map, List.mem_filter, Array.mem_toList_iff] at hj
  obtain ⟨e, ⟨he, hb⟩, rfl⟩ := hj
  exact hall e he hb

theorem ready_new {i : Nat} {l : Array Bool} (h : i ∈ Region.ready md ops l) (hl : l.size = ops.size) : l.getD i false = false ∧ i < l.size := by
  obtain ⟨h0, o, ho, _⟩ := mem_ready.1 h
  have hi : i < l.size := hl ▸ (Array.getElem?_eq_some_iff.1 ho).1
  simp [hi] at h0 ⊢
  exact h0

theorem ready_lt {i : Nat} {l : Array Bool} (h : i ∈ Region.ready md ops l) : i < ops.size := by
  obtain ⟨_, o, ho, _⟩ := mem_ready.1 h
  exact (Array.getElem?_eq_some_iff.1 ho).1

theorem set_is {i : Nat} {l : Array Bool} (h : i < l.size) : (l.setIfInBounds i true).getD i false = true := by simp [h]

/-- The last one has not come up where another one may still come up: it waits for all. -/
theorem not_last {i n : Nat} {l : Array Bool} (h : i ∈ Region.ready md ops l) (hl : l.size = ops.size) (hn : l.getD n false = true → ∀ j, j < n → l.getD j false = true) (hi : i < n) : l.getD n false = false := by
  cases hh : l.getD n false
  · rfl
  · have := hn hh i hi
    rw [(ready_new h hl).1] at this
    cases this

theorem last_kept {i n : Nat} {l : Array Bool} (h : i ∈ Region.ready md ops l) (hl : l.size = ops.size) (hn : l.getD n false = true → ∀ j, j < n → l.getD j false = true) (hi : i < n) : (l.setIfInBounds i true).getD n false = true → ∀ j, j < n → (l.setIfInBounds i true).getD j false = true := fun hh => by
  rw [getD_set_ne false (by omega), not_last h hl hn hi] at hh
  cases hh

theorem last_comes {n : Nat} {l : Array Bool} (h : n ∈ Region.ready md ops l) (hw : (List.range n).all (fun j => (waitsFor md ops n).contains j) = true) : (l.setIfInBounds n true).getD n false = true → ∀ j, j < n → (l.setIfInBounds n true).getD j false = true := fun _ j hj =>
  getD_set_true (ready_waits h (List.all_eq_true.1 hw j (List.mem_range.2 hj)))

theorem set_or {i j : Nat} {l : Array Bool} (h : (l.setIfInBounds i true).getD j false = true) (hne : i ≠ j) : l.getD j false = true := by
  rw [getD_set_ne false hne] at h; exact h

theorem set_same {i j : Nat} {l : Array Bool} (h : (l.setIfInBounds i true).getD j false = false) : l.getD j false = false := by
  cases hh : l.getD j false
  · rfl
  · rw [getD_set_true hh] at h; exact h

theorem none_left {l : Array Bool} (hl : l.size = ops.size) (h : l.toList.count false = 0) : Region.ready md ops l = [] := by
  apply List.eq_nil_iff_forall_not_mem.2
  intro i hi
  obtain ⟨h1, h2⟩ := ready_new hi hl
  simp [h2] at h1
  have := List.count_eq_zero.1 h
  exact this (by rw [← h1]; exact Array.getElem_mem_toList h2)

theorem wpAny_inv (I : Array Bool → Act → World → Prop)
    (hstep : ∀ l a w i, I l a w → l.size = ops.size → i ∈ Region.ready md ops l → wpOp P ops Q i (fun a' w' => I (l.setIfInBounds i true) a' w') a w)
    (hend : ∀ l a w, I l a w → l.size = ops.size → Region.ready md ops l = [] → Q .normal a w) :
    ∀ (fuel : Nat) (l : Array Bool) (a : Act) (w : World), l.size = ops.size → l.toList.count false ≤ fuel → I l a w → wpAny P md ops Q fuel l a w
  | 0, l, a, w, hl, hc, hI => by
    have h0 := none_left (md := md) hl (Nat.le_zero.1 hc)
    exact ⟨h0, hend l a w hI hl h0⟩
  | fuel + 1, l, a, w, hl, hc, hI => by
    refine ⟨hend l a w hI hl, fun i hi => wpOp_mono (fun a' w' h' => ?_) (hstep l a w i hI hl hi)⟩
    obtain ⟨h1, h2⟩ := ready_new hi hl
    simp [h2] at h1
    refine wpAny_inv I hstep hend fuel _ a' w' (by simpa using hl) ?_ h'
    have h3 : i < l.toList.length := by simpa using h2
    rw [Array.toList_setIfInBounds, List.count_set h3]
    simp [h1] at hc ⊢
    omega

/-- All have come up: none is left that waits for none but such. (For the end: 'all listed' by hand.) -/
theorem region_inv {id : Nat} {a : Act} {w : World} (hm : P.follows .mixedOrders = true) (I : Array Bool → Act → World → Prop)
    (h0 : I (Array.replicate ops.size false) a w.drew)
    (hstep : ∀ l a w i, I l a w → l.size = ops.size → i ∈ Region.ready .any ops l → wpOp P ops Q i (fun a' w' => I (l.setIfInBounds i true) a' w') a w)
    (hend : ∀ l a w, I l a w → l.size = ops.size → Region.ready .any ops l = [] → Q .normal a w) : (Code.region id ops true).wp P Q a w :=
  wp_region_any hm (wpAny_inv I hstep hend _ _ _ _ (by simp) (by simp [List.count_replicate]) h0)

/-- Where the waiting goes only backwards and nobody is ready, all have come up. -/
theorem all_listed {l : Array Bool} (hl : l.size = ops.size) (hw : (List.range ops.size).all (fun i => (waitsFor md ops i).all (· < i)) = true) (h : Region.ready md ops l = []) (i : Nat) (hi : i < ops.size) : l.getD i false = true := by
  induction i using Nat.strongRecOn with
  | _ i ih =>
    cases hh : l.getD i false
    case true => rfl
    exfalso
    have : i ∈ Region.ready md ops l := by
      rw [mem_ready]
      refine ⟨?_, ops[i], by simp [hi], fun e he hb => ?_⟩
      · have hi' : i < l.size := by omega
        simp [hi'] at hh ⊢; exact hh
      · have h1 := List.all_eq_true.1 (List.all_eq_true.1 hw i (List.mem_range.2 hi)) e.on (by
          simp only [waitsFor, Array.getElem?_eq_getElem hi, List.mem_map, List.mem_filter, Array.mem_toList_iff]
          exact ⟨e, ⟨he, hb⟩, rfl⟩)
        have h2 : e.on < i := by simpa using h1
        exact ih e.on h2 (by omega)
    rw [h] at this
    cases this
end
end Go.Proofs.YtfemmnhfllbgjaaGreatDoor
/- The library's strings.CutPrefix and strings.HasSuffix at this program: where the shelf's contracts find their bodies. -/
namespace Go.Proofs.YtfemmnhfllbgjaaGreatDoor
open Go.Shelf Go.RowKit
def cutpRen : Go.Shelf.Ren := ⟨fun | 103 => 48 | 206 => 79 | 210 => 67 | n => n, fun | 3 => 3 | 4 => 4 | 9 => 9 | 24 => 69 | n => n, fun  | n => n⟩
theorem cutpLays : Go.Proofs.Lays.n103 Tryz.prog cutpRen := {
  mixed := by kernel_rfl
  f103 := Tryz.func48.trans (congrArg some (by kernel_rfl))
  f206 := Tryz.func79.trans (congrArg some (by kernel_rfl))
  f210 := Tryz.func67.trans (congrArg some (by kernel_rfl))
  t3 := Tryz.underlying3
  a3 := Tryz.isAgg3
  z3 := Tryz.sizeOf3
  v3 := Tryz.zeroValue3
  t4 := Tryz.underlying4
  a4 := Tryz.isAgg4
  z4 := Tryz.sizeOf4
  v4 := Tryz.zeroValue4
  t9 := Tryz.underlying9
  a9 := Tryz.isAgg9
  z9 := Tryz.sizeOf9
  v9 := Tryz.zeroValue9
  t24 := Tryz.underlying69
  a24 := Tryz.isAgg69
  z24 := Tryz.sizeOf69
  v24 := Tryz.zeroValue69
}
def hsufRen : Go.Shelf.Ren := ⟨fun | 100 => 49 | 207 => 68 | n => n, fun | 3 => 3 | 4 => 4 | 9 => 9 | n => n, fun  | n => n⟩
theorem hsufLays : Go.Proofs.Lays.n100 Tryz.prog hsufRen := {
  mixed := by kernel_rfl
  f100 := Tryz.func49.trans (congrArg some (by kernel_rfl))
  f207 := Tryz.func68.trans (congrArg some (by kernel_rfl))
  t3 := Tryz.underlying3
  a3 := Tryz.isAgg3
  z3 := Tryz.sizeOf3
  v3 := Tryz.zeroValue3
  t4 := Tryz.underlying4
  a4 := Tryz.isAgg4
  z4 := Tryz.sizeOf4
  v4 := Tryz.zeroValue4
  t9 := Tryz.underlying9
  a9 := Tryz.isAgg9
  z9 := Tryz.sizeOf9
  v9 := Tryz.zeroValue9
}
end Go.Proofs.YtfemmnhfllbgjaaGreatDoor
/- The library's strconv.FormatInt, strconv.ParseInt and strings.SplitN at this program: where the shelf's contracts find their bodies. -/
namespace Go.Proofs.YtfemmnhfllbgjaaGreatDoor
open Go.Shelf Go.RowKit
def fmtiRen : Go.Shelf.Ren := ⟨fun | 129 => 112 | 173 => 71 | 246 => 85 | 283 => 96 | 284 => 97 | 285 => 98 | 286 => 99 | 317 => 111 | 318 => 113 | 319 => 114 | 320 => 115 | 337 => 121 | 338 => 122 | n => n, fun | 0 => 0 | 2 => 2 | 3 => 3 | 4 => 4 | 5 => 5 | 9 => 9 | 20 => 20 | 37 => 22 | 46 => 121 | 51 => 109 | 53 => 127 | 171 => 134 | 173 => 137 | 212 => 148 | 213 => 149 | 232 => 164 | 233 => 165 | n => n, fun | 17 => 3 | 18 => 6 | 19 => 7 | n => n⟩
theorem fmtiLays : Go.Proofs.LaysM.n173 Tryz.prog fmtiRen := {
  mixed := by kernel_rfl
  f129 := Tryz.func112.trans (congrArg some (by kernel_rfl))
  f173 := Tryz.func71.trans (congrArg some (by kernel_rfl))
  f246 := Tryz.func85.trans (congrArg some (by kernel_rfl))
  f283 := Tryz.func96.trans (congrArg some (by kernel_rfl))
  f284 := Tryz.func97.trans (congrArg some (by kernel_rfl))
  f285 := Tryz.func98.trans (congrArg some (by kernel_rfl))
  f286 := Tryz.func99.trans (congrArg some (by kernel_rfl))
  f317 := Tryz.func111.trans (congrArg some (by kernel_rfl))
  f318 := Tryz.func113.trans (congrArg some (by kernel_rfl))
  f319 := Tryz.func114.trans (congrArg some (by kernel_rfl))
  f320 := Tryz.func115.trans (congrArg some (by kernel_rfl))
  f337 := Tryz.func121.trans (congrArg some (by kernel_rfl))
  f338 := Tryz.func122.trans (congrArg some (by kernel_rfl))
  t0 := Tryz.underlying0
  a0 := Tryz.isAgg0
  z0 := Tryz.sizeOf0
  v0 := Tryz.zeroValue0
  t2 := Tryz.underlying2
  a2 := Tryz.isAgg2
  z2 := Tryz.sizeOf2
  v2 := Tryz.zeroValue2
  t3 := Tryz.underlying3
  a3 := Tryz.isAgg3
  z3 := Tryz.sizeOf3
  v3 := Tryz.zeroValue3
  t4 := Tryz.underlying4
  a4 := Tryz.isAgg4
  z4 := Tryz.sizeOf4
  v4 := Tryz.zeroValue4
  t5 := Tryz.underlying5
  a5 := Tryz.isAgg5
  z5 := Tryz.sizeOf5
  v5 := Tryz.zeroValue5
  t9 := Tryz.underlying9
  a9 := Tryz.isAgg9
  z9 := Tryz.sizeOf9
  v9 := Tryz.zeroValue9
  t20 := Tryz.underlying20
  a20 := Tryz.isAgg20
  z20 := Tryz.sizeOf20
  v20 := Tryz.zeroValue20
  t37 := Tryz.underlying22
  a37 := Tryz.isAgg22
  z37 := Tryz.sizeOf22
  v37 := Tryz.zeroValue22
  t46 := Tryz.underlying121
  a46 := Tryz.isAgg121
  z46 := Tryz.sizeOf121
  v46 := Tryz.zeroValue121
  t51 := Tryz.underlying109
  a51 := Tryz.isAgg109
  z51 := Tryz.sizeOf109
  v51 := Tryz.zeroValue109
  t53 := Tryz.underlying127
  a53 := Tryz.isAgg127
  z53 := Tryz.sizeOf127
  v53 := Tryz.zeroValue127
  t171 := Tryz.underlying134
  a171 := Tryz.isAgg134
  z171 := Tryz.sizeOf134
  v171 := Tryz.zeroValue134
  t173 := Tryz.underlying137
  a173 := Tryz.isAgg137
  z173 := Tryz.sizeOf137
  v173 := Tryz.zeroValue137
  t212 := Tryz.underlying148
  a212 := Tryz.isAgg148
  z212 := Tryz.sizeOf148
  v212 := Tryz.zeroValue148
  t213 := Tryz.underlying149
  a213 := Tryz.isAgg149
  z213 := Tryz.sizeOf149
  t232 := Tryz.underlying164
  a232 := Tryz.isAgg164
  z232 := Tryz.sizeOf164
  v232 := Tryz.zeroValue164
  t233 := Tryz.underlying165
  a233 := Tryz.isAgg165
  z233 := Tryz.sizeOf165
  v233 := Tryz.zeroValue165
  g17 := by kernel_rfl
  g18 := by kernel_rfl
  g19 := by kernel_rfl
  i0 := by kernel_rfl
  i2 := by kernel_rfl
  i3 := by kernel_rfl
  i4 := by kernel_rfl
  i5 := by kernel_rfl
  i9 := by kernel_rfl
  i20 := by kernel_rfl
  i37 := by kernel_rfl
  i46 := by kernel_rfl
  i51 := by kernel_rfl
  i53 := by kernel_rfl
  i171 := by kernel_rfl
  i173 := by kernel_rfl
  i212 := by kernel_rfl
  i232 := by kernel_rfl
  i233 := by kernel_rfl
  m17 := by kernel_rfl
  m18 := by kernel_rfl
  m19 := by kernel_rfl
}
def prsiRen : Go.Shelf.Ren := ⟨fun | 129 => 112 | 171 => 110 | 174 => 70 | 205 => 109 | 243 => 120 | 245 => 84 | 246 => 85 | 247 => 83 | 279 => 92 | 280 => 93 | 281 => 94 | 282 => 95 | 283 => 96 | 284 => 97 | 285 => 98 | 286 => 99 | 287 => 91 | 316 => 63 | 317 => 111 | 318 => 113 | 319 => 114 | 320 => 115 | 321 => 107 | 322 => 108 | 337 => 121 | 338 => 122 | n => n, fun | 0 => 0 | 2 => 2 | 3 => 3 | 4 => 4 | 5 => 5 | 9 => 9 | 20 => 20 | 21 => 21 | 37 => 22 | 46 => 121 | 51 => 109 | 53 => 127 | 75 => 93 | 80 => 183 | 85 => 94 | 127 => 102 | 143 => 159 | 145 => 161 | 167 => 126 | 168 => 130 | 171 => 134 | 173 => 137 | 175 => 128 | 210 => 145 | 212 => 148 | 213 => 149 | 232 => 164 | 233 => 165 | n => n, fun | 15 => 1 | 16 => 2 | 17 => 3 | 18 => 6 | 19 => 7 | n => n⟩
theorem prsiLays : Go.Proofs.LaysC.n174 Tryz.prog prsiRen := {
  mixed := by kernel_rfl
  f129 := Tryz.func112.trans (congrArg some (by kernel_rfl))
  f171 := Tryz.func110.trans (congrArg some (by kernel_rfl))
  f174 := Tryz.func70.trans (congrArg some (by kernel_rfl))
  f205 := Tryz.func109.trans (congrArg some (by kernel_rfl))
  f243 := Tryz.func120.trans (congrArg some (by kernel_rfl))
  f245 := Tryz.func84.trans (congrArg some (by kernel_rfl))
  f246 := Tryz.func85.trans (congrArg some (by kernel_rfl))
  f247 := Tryz.func83.trans (congrArg some (by kernel_rfl))
  f279 := Tryz.func92.trans (congrArg some (by kernel_rfl))
  f280 := Tryz.func93.trans (congrArg some (by kernel_rfl))
  f281 := Tryz.func94.trans (congrArg some (by kernel_rfl))
  f282 := Tryz.func95.trans (congrArg some (by kernel_rfl))
  f283 := Tryz.func96.trans (congrArg some (by kernel_rfl))
  f284 := Tryz.func97.trans (congrArg some (by kernel_rfl))
  f285 := Tryz.func98.trans (congrArg some (by kernel_rfl))
  f286 := Tryz.func99.trans (congrArg some (by kernel_rfl))
  f287 := Tryz.func91.trans (congrArg some (by kernel_rfl))
  f316 := Tryz.func63.trans (congrArg some (by kernel_rfl))
  f317 := Tryz.func111.trans (congrArg some (by kernel_rfl))
  f318 := Tryz.func113.trans (congrArg some (by kernel_rfl))
  f319 := Tryz.func114.trans (congrArg some (by kernel_rfl))
  f320 := Tryz.func115.trans (congrArg some (by kernel_rfl))
  f321 := Tryz.func107.trans (congrArg some (by kernel_rfl))
  f322 := Tryz.func108.trans (congrArg some (by kernel_rfl))
  f337 := Tryz.func121.trans (congrArg some (by kernel_rfl))
  f338 := Tryz.func122.trans (congrArg some (by kernel_rfl))
  t0 := Tryz.underlying0
  a0 := Tryz.isAgg0
  z0 := Tryz.sizeOf0
  v0 := Tryz.zeroValue0
  t2 := Tryz.underlying2
  a2 := Tryz.isAgg2
  z2 := Tryz.sizeOf2
  v2 := Tryz.zeroValue2
  t3 := Tryz.underlying3
  a3 := Tryz.isAgg3
  z3 := Tryz.sizeOf3
  v3 := Tryz.zeroValue3
  t4 := Tryz.underlying4
  a4 := Tryz.isAgg4
  z4 := Tryz.sizeOf4
  v4 := Tryz.zeroValue4
  t5 := Tryz.underlying5
  a5 := Tryz.isAgg5
  z5 := Tryz.sizeOf5
  v5 := Tryz.zeroValue5
  t9 := Tryz.underlying9
  a9 := Tryz.isAgg9
  z9 := Tryz.sizeOf9
  v9 := Tryz.zeroValue9
  t20 := Tryz.underlying20
  a20 := Tryz.isAgg20
  z20 := Tryz.sizeOf20
  v20 := Tryz.zeroValue20
  t21 := Tryz.underlying21
  a21 := Tryz.isAgg21
  z21 := Tryz.sizeOf21
  v21 := Tryz.zeroValue21
  t37 := Tryz.underlying22
  a37 := Tryz.isAgg22
  z37 := Tryz.sizeOf22
  v37 := Tryz.zeroValue22
  t46 := Tryz.underlying121
  a46 := Tryz.isAgg121
  z46 := Tryz.sizeOf121
  v46 := Tryz.zeroValue121
  t51 := Tryz.underlying109
  a51 := Tryz.isAgg109
  z51 := Tryz.sizeOf109
  v51 := Tryz.zeroValue109
  t53 := Tryz.underlying127
  a53 := Tryz.isAgg127
  z53 := Tryz.sizeOf127
  v53 := Tryz.zeroValue127
  t75 := Tryz.underlying93
  a75 := Tryz.isAgg93
  z75 := Tryz.sizeOf93
  v75 := Tryz.zeroValue93
  t85 := Tryz.underlying94
  a85 := Tryz.isAgg94
  z85 := Tryz.sizeOf94
  v85 := Tryz.zeroValue94
  t127 := Tryz.underlying102
  a127 := Tryz.isAgg102
  z127 := Tryz.sizeOf102
  v127 := Tryz.zeroValue102
  t143 := Tryz.underlying159
  a143 := Tryz.isAgg159
  z143 := Tryz.sizeOf159
  v143 := Tryz.zeroValue159
  t145 := Tryz.underlying161
  a145 := Tryz.isAgg161
  z145 := Tryz.sizeOf161
  v145 := Tryz.zeroValue161
  t167 := Tryz.underlying126
  a167 := Tryz.isAgg126
  z167 := Tryz.sizeOf126
  v167 := Tryz.zeroValue126
  t168 := Tryz.underlying130
  a168 := Tryz.isAgg130
  z168 := Tryz.sizeOf130
  v168 := Tryz.zeroValue130
  t171 := Tryz.underlying134
  a171 := Tryz.isAgg134
  z171 := Tryz.sizeOf134
  v171 := Tryz.zeroValue134
  t173 := Tryz.underlying137
  a173 := Tryz.isAgg137
  z173 := Tryz.sizeOf137
  v173 := Tryz.zeroValue137
  t175 := Tryz.underlying128
  a175 := Tryz.isAgg128
  z175 := Tryz.sizeOf128
  v175 := Tryz.zeroValue128
  t210 := Tryz.underlying145
  a210 := Tryz.isAgg145
  z210 := Tryz.sizeOf145
  v210 := Tryz.zeroValue145
  t212 := Tryz.underlying148
  a212 := Tryz.isAgg148
  z212 := Tryz.sizeOf148
  v212 := Tryz.zeroValue148
  t213 := Tryz.underlying149
  a213 := Tryz.isAgg149
  z213 := Tryz.sizeOf149
  t232 := Tryz.underlying164
  a232 := Tryz.isAgg164
  z232 := Tryz.sizeOf164
  v232 := Tryz.zeroValue164
  t233 := Tryz.underlying165
  a233 := Tryz.isAgg165
  z233 := Tryz.sizeOf165
  v233 := Tryz.zeroValue165
  g15 := by kernel_rfl
  g16 := by kernel_rfl
  g17 := by kernel_rfl
  g18 := by kernel_rfl
  g19 := by kernel_rfl
  t80 := Tryz.underlying183
  a80 := Tryz.isAgg183
  z80 := Tryz.sizeOf183
  v80 := Tryz.zeroValue183
  i0 := by kernel_rfl
  i2 := by kernel_rfl
  i3 := by kernel_rfl
  i4 := by kernel_rfl
  i5 := by kernel_rfl
  i9 := by kernel_rfl
  i20 := by kernel_rfl
  i21 := by kernel_rfl
  i37 := by kernel_rfl
  i46 := by kernel_rfl
  i51 := by kernel_rfl
  i53 := by kernel_rfl
  i75 := by kernel_rfl
  i80 := by kernel_rfl
  i85 := by kernel_rfl
  i127 := by kernel_rfl
  i143 := by kernel_rfl
  i145 := by kernel_rfl
  i167 := by kernel_rfl
  i168 := by kernel_rfl
  i171 := by kernel_rfl
  i173 := by kernel_rfl
  i175 := by kernel_rfl
  i210 := by kernel_rfl
  i212 := by kernel_rfl
  i232 := by kernel_rfl
  i233 := by kernel_rfl
  m15 := by kernel_rfl
  m16 := by kernel_rfl
  m17 := by kernel_rfl
  m18 := by kernel_rfl
  m19 := by kernel_rfl
  c0 := by kernel_rfl
  c2 := by kernel_rfl
  c3 := by kernel_rfl
  c4 := by kernel_rfl
  c5 := by kernel_rfl
  c9 := by kernel_rfl
  c20 := by kernel_rfl
  c21 := by kernel_rfl
  c37 := by kernel_rfl
  c46 := by kernel_rfl
  c51 := by kernel_rfl
  c53 := by kernel_rfl
  c75 := by kernel_rfl
  c80 := by kernel_rfl
  c85 := by kernel_rfl
  c127 := by kernel_rfl
  c143 := by kernel_rfl
  c145 := by kernel_rfl
  c167 := by kernel_rfl
  c168 := by kernel_rfl
  c171 := by kernel_rfl
  c173 := by kernel_rfl
  c175 := by kernel_rfl
  c210 := by kernel_rfl
  c212 := by kernel_rfl
  c213 := by kernel_rfl
  c232 := by kernel_rfl
  c233 := by kernel_rfl
}
def splnRen : Go.Shelf.Ren := ⟨fun | 138 => 81 | 143 => 82 | 147 => 50 | 195 => 87 | 197 => 88 | 217 => 103 | 218 => 89 | 219 => 90 | 221 => 69 | 224 => 105 | 225 => 104 | 260 => 102 | 266 => 118 | 267 => 106 | 268 => 80 | 314 => 119 | n => n, fun | 0 => 0 | 3 => 3 | 4 => 4 | 5 => 5 | 9 => 9 | 21 => 21 | 31 => 30 | 46 => 121 | 51 => 109 | 105 => 123 | 119 => 153 | 138 => 155 | 139 => 156 | 146 => 157 | n => n, fun | 1 => 0 | 3 => 4 | 4 => 5 | n => n⟩
theorem splnLays : Go.Proofs.Lays.n147 Tryz.prog splnRen := {
  mixed := by kernel_rfl
  f138 := Tryz.func81.trans (congrArg some (by kernel_rfl))
  f143 := Tryz.func82.trans (congrArg some (by kernel_rfl))
  f147 := Tryz.func50.trans (congrArg some (by kernel_rfl))
  f195 := Tryz.func87.trans (congrArg some (by kernel_rfl))
  f197 := Tryz.func88.trans (congrArg some (by kernel_rfl))
  f217 := Tryz.func103.trans (congrArg some (by kernel_rfl))
  f218 := Tryz.func89.trans (congrArg some (by kernel_rfl))
  f219 := Tryz.func90.trans (congrArg some (by kernel_rfl))
  f221 := Tryz.func69.trans (congrArg some (by kernel_rfl))
  f224 := Tryz.func105.trans (congrArg some (by kernel_rfl))
  f225 := Tryz.func104.trans (congrArg some (by kernel_rfl))
  f260 := Tryz.func102.trans (congrArg some (by kernel_rfl))
  f266 := Tryz.func118.trans (congrArg some (by kernel_rfl))
  f267 := Tryz.func106.trans (congrArg some (by kernel_rfl))
  f268 := Tryz.func80.trans (congrArg some (by kernel_rfl))
  f314 := Tryz.func119.trans (congrArg some (by kernel_rfl))
  t0 := Tryz.underlying0
  a0 := Tryz.isAgg0
  z0 := Tryz.sizeOf0
  v0 := Tryz.zeroValue0
  t3 := Tryz.underlying3
  a3 := Tryz.isAgg3
  z3 := Tryz.sizeOf3
  v3 := Tryz.zeroValue3
  t4 := Tryz.underlying4
  a4 := Tryz.isAgg4
  z4 := Tryz.sizeOf4
  v4 := Tryz.zeroValue4
  t5 := Tryz.underlying5
  a5 := Tryz.isAgg5
  z5 := Tryz.sizeOf5
  v5 := Tryz.zeroValue5
  t9 := Tryz.underlying9
  a9 := Tryz.isAgg9
  z9 := Tryz.sizeOf9
  v9 := Tryz.zeroValue9
  t21 := Tryz.underlying21
  a21 := Tryz.isAgg21
  z21 := Tryz.sizeOf21
  v21 := Tryz.zeroValue21
  t31 := Tryz.underlying30
  a31 := Tryz.isAgg30
  z31 := Tryz.sizeOf30
  v31 := Tryz.zeroValue30
  t46 := Tryz.underlying121
  a46 := Tryz.isAgg121
  z46 := Tryz.sizeOf121
  v46 := Tryz.zeroValue121
  t51 := Tryz.underlying109
  a51 := Tryz.isAgg109
  z51 := Tryz.sizeOf109
  v51 := Tryz.zeroValue109
  t105 := Tryz.underlying123
  a105 := Tryz.isAgg123
  z105 := Tryz.sizeOf123
  v105 := Tryz.zeroValue123
  t119 := Tryz.underlying153
  a119 := Tryz.isAgg153
  z119 := Tryz.sizeOf153
  t138 := Tryz.underlying155
  a138 := Tryz.isAgg155
  z138 := Tryz.sizeOf155
  v138 := Tryz.zeroValue155
  t139 := Tryz.underlying156
  a139 := Tryz.isAgg156
  z139 := Tryz.sizeOf156
  v139 := Tryz.zeroValue156
  t146 := Tryz.underlying157
  a146 := Tryz.isAgg157
  z146 := Tryz.sizeOf157
  v146 := Tryz.zeroValue157
  g1 := by kernel_rfl
  g3 := by kernel_rfl
  g4 := by kernel_rfl
}
end Go.Proofs.YtfemmnhfllbgjaaGreatDoor
/- The library's strings.Clone at this program: it hands back the same bytes. Laid off the shelf's own contract. -/
namespace Go.Proofs.YtfemmnhfllbgjaaGreatDoor
open Go.Shelf Go.RowKit
def cloneRen : Go.Shelf.Ren := ⟨fun | 316 => 63 | n => n, fun | 0 => 0 | 3 => 3 | 4 => 4 | 9 => 9 | 37 => 22 | 127 => 102 | 5 => 5 | n => n, fun | n => n⟩
theorem cloneLays : Go.Proofs.LaysM.n316 Tryz.prog cloneRen := {
  mixed := by kernel_rfl
  f316 := Tryz.func63.trans (congrArg some (by kernel_rfl))
  t0 := Tryz.underlying0
  a0 := Tryz.isAgg0
  z0 := Tryz.sizeOf0
  v0 := Tryz.zeroValue0
  t3 := Tryz.underlying3
  a3 := Tryz.isAgg3
  z3 := Tryz.sizeOf3
  v3 := Tryz.zeroValue3
  t4 := Tryz.underlying4
  a4 := Tryz.isAgg4
  z4 := Tryz.sizeOf4
  v4 := Tryz.zeroValue4
  t9 := Tryz.underlying9
  a9 := Tryz.isAgg9
  z9 := Tryz.sizeOf9
  v9 := Tryz.zeroValue9
  t37 := Tryz.underlying22
  a37 := Tryz.isAgg22
  z37 := Tryz.sizeOf22
  v37 := Tryz.zeroValue22
  t127 := Tryz.underlying102
  a127 := Tryz.isAgg102
  z127 := Tryz.sizeOf102
  v127 := Tryz.zeroValue102
  t5 := Tryz.underlying5
  a5 := Tryz.isAgg5
  z5 := Tryz.sizeOf5
  v5 := Tryz.zeroValue5
  i0 := by kernel_rfl
  i3 := by kernel_rfl
  i4 := by kernel_rfl
  i9 := by kernel_rfl
  i37 := by kernel_rfl
  i127 := by kernel_rfl
  i5 := by kernel_rfl }
theorem clone0 (s : ByteArray) (w : World) (hlim : s.size ≤ 281474976710656) :
    Calls Tryz.prog 63 #[.string s] w fun e w' => e = .returned (.string s) ∧ Below w.heap.size w w' := Any.stringslite_Clone cloneLays s w hlim

theorem clone (s : ByteArray) (w : World) (hlim : s.size ≤ 281474976710656) :
    Calls Tryz.prog 34 #[.string s] w fun e w' => e = .returned (.string s) ∧ Below w.heap.size w w' := by
  go_enter Tryz.func34, Tryz.ntmps34
  go_wp2_with fail
  refine (clone0 s _ hlim).mono ?_; rintro x w1 ⟨rfl, hb1⟩
  go_wp2_with fail
  go_ret
  exact ⟨rfl, hb1⟩
end Go.Proofs.YtfemmnhfllbgjaaGreatDoor
/- A map from texts to numbers: what is looked up in it, what is written into it, in words of a function from texts to numbers. -/
namespace Go.Proofs.YtfemmnhfllbgjaaGreatDoor
open Go.RowKit
set_option maxRecDepth 100000
set_option linter.unusedSimpArgs false
set_option linter.unusedVariables false

def MapStr (w : World) (g : Nat) (f : ByteArray → Option Int) : Prop :=
  ∃ es clock, w.heap[g]? = some (.map es clock) ∧ (∀ x ∈ es.toList, ∃ s v, x.key = .string s ∧ x.val = .int .i64 v ∧ f s = some v) ∧ (∀ s v, f s = some v → ∃ x ∈ es.toList, x.key = .string s)
theorem ms_find (s : ByteArray) (f : ByteArray → Option Int) : ∀ (es : List MapEntry) (i : Nat), (∀ x ∈ es, ∃ s v, x.key = .string s ∧ x.val = .int .i64 v ∧ f s = some v) →
    ((∃ x ∈ es, x.key = .string s) → ∃ j v, f s = some v ∧ Instr.findNow .string (.string s) es i = some (some (j, .int .i64 v))) ∧ ((¬ ∃ x ∈ es, x.key = .string s) → Instr.findNow .string (.string s) es i = some none)
  | [], i, _ => ⟨fun ⟨x, hx, _⟩ => (by cases hx), fun _ => (by simp [Instr.findNow])⟩
  | x :: es, i, h => by
    obtain ⟨a, v, hk, hv, hf⟩ := h x (by simp)
    have ih := ms_find s f es (i + 1) (fun y hy => h y (by simp [hy]))
    by_cases hs : s = a
    · subst hs
      refine ⟨fun _ => ⟨i, v, hf, ?_⟩, fun hn => absurd ⟨x, by simp, hk⟩ hn⟩
      have hss : (s == s) = true := (MapKept.bytes_beq s s).2 rfl
      simp [Instr.findNow, Instr.sameNow, hk, hv, hss]
    · have hd : (s == a) = false := Bool.eq_false_iff.2 fun c => hs ((MapKept.bytes_beq s a).1 c)
      have hstep : Instr.findNow .string (.string s) (x :: es) i = Instr.findNow .string (.string s) es (i + 1) := by simp [Instr.findNow, Instr.sameNow, hk, hd]
      rw [hstep]
      have hne : x.key ≠ .string s := by
        rw [hk]; intro hh; apply hs
        injection hh with hh
        exact hh.symm
      constructor
      · rintro ⟨y, hy, hyk⟩
        rcases List.mem_cons.1 hy with rfl | hy
        · exact absurd hyk hne
        · exact ih.1 ⟨y, hy, hyk⟩
      · intro hn
        exact ih.2 (fun ⟨y, hy, hyk⟩ => hn ⟨y, by simp [hy], hyk⟩)
theorem ms_check (c : Bool) (s : ByteArray) (w : World) : (Instr.checkKey c 10000 9 (.string s)).run Tryz.prog w = .ok () w := by
  kernel_rfl
theorem ms_findKey (s : ByteArray) (w : World) (es : List MapEntry) {r : Option (Nat × Value)} (h : Instr.findNow .string (.string s) es 0 = some r) : (Instr.findKey 9 (.string s) es).run Tryz.prog w = .ok r w := by
  unfold Instr.findKey
  have hu : (underlying 9).run Tryz.prog w = .ok .string w := by kernel_rfl
  simp [hu, h]
theorem ms_lookup {w : World} {g : Nat} {f : ByteArray → Option Int} (h : MapStr w g f) (s : ByteArray) : (Instr.lookup 55 (.map (some g)) (.string s) true).run Tryz.prog w = .ok (.tuple #[.int .i64 ((f s).getD 0), .bool (f s).isSome]) w := by
  obtain ⟨es, clock, hb, h1, h2⟩ := h
  have hu : (underlying 55).run Tryz.prog w = .ok (.map 9 3) w := by kernel_rfl
  have hg : (getObj g).run Tryz.prog w = .ok (.map es clock) w := MapKept.run_getObj_map hb
  have hz : (zeroValue 3).run Tryz.prog w = .ok (.int .i64 0) w := by kernel_rfl
  have hf := ms_find s f es.toList 0 h1
  by_cases hex : ∃ x ∈ es.toList, x.key = .string s
  · obtain ⟨j, v, hv, hr⟩ := hf.1 hex
    have hK2 := ms_findKey s w es.toList hr
    simp [Instr.lookup, hu, hg, ms_check, hK2, hv]
  · have hr := hf.2 hex
    have hv : f s = none := by
      cases hh : f s with
      | none => rfl
      | some v => exact absurd (h2 s v hh) hex
    have hK2 := ms_findKey s w es.toList hr
    simp [Instr.lookup, hu, hg, ms_check, hK2, hv, hz]
def sPut (f : ByteArray → Option Int) (s : ByteArray) (v : Int) : ByteArray → Option Int := fun a => if a = s then some v else f a
theorem ms_update {w : World} {g : Nat} {f : ByteArray → Option Int} (h : MapStr w g f) (s : ByteArray) (v : Int) (hn : f s = none) : ∃ w', (Instr.mapUpdate 55 (.map (some g)) (.string s) (.int .i64 v)).run Tryz.prog w = .ok () w' ∧ MapStr w' g (sPut f s v) ∧ w.grownBy w' (some g) := by
  obtain ⟨es, clock, hb, h1, h2⟩ := h
  have hu : (underlying 55).run Tryz.prog w = .ok (.map 9 3) w := by kernel_rfl
  have hg : (getObj g).run Tryz.prog w = .ok (.map es clock) w := MapKept.run_getObj_map hb
  have hf := ms_find s f es.toList 0 h1
  have hex : ¬ ∃ x ∈ es.toList, x.key = .string s := by
    rintro ⟨x, hx, hxk⟩
    obtain ⟨a, v', hk', _, hf'⟩ := h1 x hx
    rw [hk'] at hxk
    injection hxk with hxk
    rw [hxk, hn] at hf'
    cases hf'
  have hK2 := ms_findKey s w es.toList (hf.2 hex)
  refine ⟨ChangeMaps.setBlock w g (.map (es.push ⟨.string s, .int .i64 v, clock⟩) (clock + 1)), ?_, ?_, ?_⟩
  · have hset : (setObj g (.map (es.push ⟨.string s, .int .i64 v, clock⟩) (clock + 1))).run Tryz.prog w = .ok () (ChangeMaps.setBlock w g (.map (es.push ⟨.string s, .int .i64 v, clock⟩) (clock + 1))) := by
      exact MapKept.run_setObj_map _ hb
    simp [Instr.mapUpdate, hu, hg, ms_check, hK2, hset]
  · refine ⟨_, _, ChangeMaps.heap_setBlock_same hb _, ?_, ?_⟩
    · intro x hx
      simp at hx
      rcases hx with hx | rfl
      · obtain ⟨a, v', hk', hv', hf'⟩ := h1 x (by simpa using hx)
        refine ⟨a, v', hk', hv', ?_⟩
        unfold sPut
        split
        · rename_i hab
          rw [hab, hn] at hf'
          cases hf'
        · exact hf'
      · exact ⟨s, v, rfl, rfl, by simp [sPut]⟩
    · intro a v' hv'
      unfold sPut at hv'
      split at hv'
      · rename_i hab
        obtain rfl := hab
        exact ⟨⟨.string a, .int .i64 v, clock⟩, by simp, rfl⟩
      · obtain ⟨x, hx, hxk⟩ := h2 a v' hv'
        exact ⟨x, by simp at hx ⊢; exact Or.inl hx, hxk⟩
  · exact ⟨rfl, rfl, rfl, by simp [ChangeMaps.setBlock], fun i _ hi => ChangeMaps.heap_setBlock_other hb _ (fun e => hi (by rw [e]))⟩
theorem ms_make (n : Int) (w : World) : (Instr.makeMap 55 (some (.int .i64 n))).run Tryz.prog w = .ok (.map (some w.heap.size)) (w.alloc (.map #[] 0)) := by
  have hu : (underlying 55).run Tryz.prog w = .ok (.map 9 3) w := by kernel_rfl
  have h := run_makeMap (P := Tryz.prog) 55 w
  have hi : (asInt (.int .i64 n)).run Tryz.prog w = .ok n w := by kernel_rfl
  unfold Instr.makeMap at h ⊢
  simp [hu, hi] at h ⊢
theorem ms_made (w : World) : MapStr (w.alloc (.map #[] 0)) w.heap.size (fun _ => none) := ⟨#[], 0, (MapKept.heap_alloc w _).1, by simp, by simp⟩
theorem MapStr.kept {w w' : World} {g : Nat} {f : ByteArray → Option Int} (h : MapStr w g f) (hk : w'.heap[g]? = w.heap[g]?) : MapStr w' g f := by
  obtain ⟨es, clock, hb, r⟩ := h
  exact ⟨es, clock, hk.trans hb, r⟩
theorem MapStr.lt {w : World} {g : Nat} {f : ByteArray → Option Int} (h : MapStr w g f) : g < w.heap.size := by
  obtain ⟨es, clock, hb, r⟩ := h
  exact (Array.getElem?_eq_some_iff.1 hb).1
theorem MapStr.new {w w' : World} {g : Nat} {f : ByteArray → Option Int} (h : MapStr w g f) (hb : Below w.heap.size w w') : MapStr w' g f := h.kept (hb.block g h.lt)
theorem MapStr.setCell {w : World} {g : Nat} {f : ByteArray → Option Int} (h : MapStr w g f) {a : Addr} (ha : g ≠ a.block) (u : Value) : MapStr (w.setCell a u) g f := by
  obtain ⟨es, clock, hb, r⟩ := h
  exact ⟨es, clock, by rw [RowKit.Below.heap_setCell _ _ _ _ ha]; exact hb, r⟩
theorem MapStr.ext {w : World} {g : Nat} {f f' : ByteArray → Option Int} (h : MapStr w g f) (he : ∀ s, f s = f' s) : MapStr w g f' := by
  obtain rfl : f = f' := funext he
  exact h
end Go.Proofs.YtfemmnhfllbgjaaGreatDoor
