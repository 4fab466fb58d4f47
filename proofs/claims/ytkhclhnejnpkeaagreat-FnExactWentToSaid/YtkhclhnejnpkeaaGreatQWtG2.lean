/- Several small texts of one level, one behind the other. -/
import Derived.Test.YtkhclhnejnpkeaaGreatQWtBase
import Derived.Deep.AppendLies
import Derived.Deep.Slices
import Derived.Laws.MakeOwn
import Derived.Handy
import Derived.Deep.QuietTactic
import Derived.BigQuiet
import Derived.WalkKit
import Derived.ProofKit
import Derived.OpenShut
import Derived.Lib.SmallJoins
import Derived.WalkLawsBesides
import Derived.Maps.AppendAt
import Derived.Laws.AppendOwn
import Derived.Laws.IdiomStrings
import Derived.Lib.BufferRead
import Derived.RangeFuncBox
import Derived.Shelf.LaysM
import Derived.Shelf.Strconv.Clone
import Derived.Laws.StructEq
import Derived.Maps.Own
/- Rows in memory: what a slice reads as, a row that a call made and owns, and what becomes of both when other blocks turn. -/
namespace Go.Proofs.YtkhclhnejnpkeaaGreat
open Go.RowKit
set_option maxRecDepth 100000
set_option linter.unusedVariables false
set_option linter.unusedSimpArgs false

theorem hide {p : Prop} (h : p) : Hid p := h
/-- The slice v has n elements of 'size' cells, and its cells hold xs. -/
def Reads (w : World) (v : Value) (n size : Nat) (xs : List Value) : Prop :=
  xs.length = n * size ∧ ∃ ad cap, v = .slice ad n cap ∧ n ≤ cap ∧ cap ≤ maxLen ∧
    (0 < n → ∃ b o, ad = some ⟨b, o, none⟩ ∧ b < w.heap.size ∧ ∀ j u, xs[j]? = some u → w.cell? ⟨b, o + j, none⟩ = some u)

/-- Of what was there only blocks from lo up to hi have turned. -/
structure Turn (lo hi : Nat) (w w' : World) : Prop where
  os : w'.os = w.os
  tape : w'.tape = w.tape
  output : w'.output = w.output
  size : w.heap.size ≤ w'.heap.size
  block : ∀ k, k < w.heap.size → (k < lo ∨ hi ≤ k) → w'.heap[k]? = w.heap[k]?

theorem Turn.refl (lo hi : Nat) (w : World) : Turn lo hi w w := ⟨rfl, rfl, rfl, Nat.le_refl _, fun _ _ _ => rfl⟩
theorem Turn.trans {lo hi : Nat} {a b c : World} (h : Turn lo hi a b) (k : Turn lo hi b c) : Turn lo hi a c :=
  ⟨k.os.trans h.os, k.tape.trans h.tape, k.output.trans h.output, Nat.le_trans h.size k.size, fun i hi h' => (k.block i (Nat.lt_of_lt_of_le hi h.size) h').trans (h.block i hi h')⟩
theorem Turn.wide {lo hi lo' hi' : Nat} {a b : World} (h : Turn lo hi a b) (h1 : lo' ≤ lo) (h2 : hi ≤ hi') : Turn lo' hi' a b :=
  ⟨h.os, h.tape, h.output, h.size, fun k hk h' => h.block k hk (by omega)⟩
theorem Turn.cell {lo hi : Nat} {a b : World} (h : Turn lo hi a b) (p o : Nat) (h1 : p < a.heap.size) (h2 : p < lo ∨ hi ≤ p) : b.cell? ⟨p, o, none⟩ = a.cell? ⟨p, o, none⟩ := World.cell?_of_block (h.block p h1 h2)
theorem Turn.frozen {lo hi : Nat} {a b : World} (h : Turn lo hi a b) (p o : Nat) (h1 : p < a.heap.size) (h2 : p < lo ∨ hi ≤ p) : b.frozen? ⟨p, o, none⟩ = a.frozen? ⟨p, o, none⟩ := World.frozen?_of_block (h.block p h1 h2)
theorem Turn.below {lo hi B : Nat} {a b : World} (h : Turn lo hi a b) (h1 : B ≤ lo) (h2 : B ≤ a.heap.size) : Below B a b := ⟨h.os, h.tape, h.output, h.size, fun k hk => h.block k (by omega) (by omega)⟩
/-- A call that made memory turned nothing. -/
theorem turn_new {a b : World} (h : Below a.heap.size a b) (lo hi : Nat) : Turn lo hi a b := ⟨h.os, h.tape, h.output, h.size, fun k hk _ => h.block k hk⟩
theorem Turn.alloc {lo hi : Nat} {a b : World} (h : Turn lo hi a b) (o : Obj) : Turn lo hi a (b.alloc o) :=
  ⟨h.os, h.tape, h.output, by simp; have := h.size; omega, fun k hk h' => by rw [((Below.refl b.heap.size b).alloc (Nat.le_refl _) o).block k (by have := h.size; omega)]; exact h.block k hk h'⟩
theorem Turn.setCell {lo hi : Nat} {a b : World} (h : Turn lo hi a b) {p : Addr} (v : Value) (h1 : (lo ≤ p.block ∧ p.block < hi) ∨ a.heap.size ≤ p.block) : Turn lo hi a (b.setCell p v) :=
  ⟨h.os, h.tape, h.output, by simp; exact h.size, fun k hk h' => by rw [Below.heap_setCell b p v k (by omega)]; exact h.block k hk h'⟩
theorem Turn.drewN {lo hi : Nat} {a b : World} (h : Turn lo hi a b) (n : Nat) : Turn lo hi a (b.drewN n) := ⟨h.os, h.tape, h.output, h.size, h.block⟩
theorem Turn.drew {lo hi : Nat} {a b : World} (h : Turn lo hi a b) : Turn lo hi a b.drew := ⟨h.os, h.tape, h.output, h.size, h.block⟩
theorem gb_refl (w : World) (row : Option Nat) : w.grownBy w row := ⟨rfl, rfl, rfl, Nat.le_refl _, fun _ _ _ => rfl⟩
theorem Reads.kept {w w' : World} {v : Value} {n size : Nat} {xs : List Value} (h : Reads w v n size xs) (hs : w.heap.size ≤ w'.heap.size) (hk : ∀ k, v.ownBlock = some k → k < w.heap.size → w'.heap[k]? = w.heap[k]?) : Reads w' v n size xs := by
  obtain ⟨hl, ad, cap, rfl, h1, h2, h3⟩ := h
  refine ⟨hl, ad, cap, rfl, h1, h2, fun hn => ?_⟩
  obtain ⟨b, o, rfl, hb, hc⟩ := h3 hn
  exact ⟨b, o, rfl, by omega, fun j u hu => by rw [World.cell?_of_block (w := w) (hk b rfl hb)]; exact hc j u hu⟩
theorem Reads.new {w w' : World} {v : Value} {n size : Nat} {xs : List Value} (h : Reads w v n size xs) (hb : Below w.heap.size w w') : Reads w' v n size xs := h.kept hb.size fun k _ hk => hb.block k hk
theorem Reads.turn {lo hi : Nat} {w w' : World} {v : Value} {n size : Nat} {xs : List Value} (h : Reads w v n size xs) (ht : Turn lo hi w w') (hk : ∀ k, v.ownBlock = some k → k < lo ∨ hi ≤ k) : Reads w' v n size xs :=
  h.kept ht.size fun k e hk' => ht.block k hk' (hk k e)
theorem Reads.alloc {w : World} {v : Value} {n size : Nat} {xs : List Value} (h : Reads w v n size xs) (o : Obj) : Reads (w.alloc o) v n size xs := h.kept (by simp) fun k _ hk => ((Below.refl w.heap.size w).alloc (Nat.le_refl _) o).block k hk

theorem reads_of_owns {w : World} {base : Nat} {e : TypeId} {size : Nat} {v : Value} {n : Nat} {xs : List Value} (h : w.ownsRow base e size v n xs) : Reads w v n size xs := by
  refine ⟨h.1, ?_⟩
  rcases h.2 with ⟨rfl, rfl⟩ | ⟨g, cap, cur, rfl, hb, hg, h1, h2, h3, h4⟩
  · exact ⟨none, 0, rfl, Nat.le_refl _, Nat.zero_le _, fun h => absurd h (Nat.lt_irrefl _)⟩
  · refine ⟨some ⟨g, 0, none⟩, cap, rfl, h1, h2, fun hn => ⟨g, 0, rfl, (Array.getElem?_eq_some_iff.1 hg).1, fun j u hu => ?_⟩⟩
    rw [Nat.zero_add, cell_of_row w g j cur e (0, 0) hg]
    rw [← h4, List.getElem?_take] at hu
    split at hu
    · simpa using hu
    · cases hu

theorem owns_kept {w w' : World} {base : Nat} {e : TypeId} {size : Nat} {v : Value} {n : Nat} {xs : List Value} (h : w.ownsRow base e size v n xs) (hk : ∀ k, v.ownBlock = some k → k < w.heap.size → w'.heap[k]? = w.heap[k]?) : w'.ownsRow base e size v n xs := by
  refine ⟨h.1, ?_⟩
  rcases h.2 with hn | ⟨g, cap, cur, rfl, hb, hgg, rest⟩
  · exact .inl hn
  · refine .inr ⟨g, cap, cur, rfl, hb, ?_, rest⟩
    rw [hk g rfl (Array.getElem?_eq_some_iff.1 hgg).1]
    exact hgg
theorem owns_new {w w' : World} {base : Nat} {e : TypeId} {size : Nat} {v : Value} {n : Nat} {xs : List Value} (h : w.ownsRow base e size v n xs) (hb : Below w.heap.size w w') : w'.ownsRow base e size v n xs := owns_kept h fun k _ hk => hb.block k hk
theorem owns_base {w : World} {base base' : Nat} {e : TypeId} {size : Nat} {v : Value} {n : Nat} {xs : List Value} (h : w.ownsRow base e size v n xs) (hb : ∀ k, v.ownBlock = some k → base' ≤ k) : w.ownsRow base' e size v n xs := by
  refine ⟨h.1, ?_⟩
  rcases h.2 with hn | ⟨g, cap, cur, rfl, _, rest⟩
  · exact .inl hn
  · exact .inr ⟨g, cap, cur, rfl, hb g rfl, rest⟩
theorem owns_far {w : World} {base : Nat} {e : TypeId} {size : Nat} {v : Value} {n : Nat} {xs : List Value} (B : Nat) (h : w.ownsRow base e size v n xs) (hv : ∀ k, v.ownBlock = some k → B ≤ k) (p : Addr) (u : Value) (hp : p.block < B) : (w.setCell p u).ownsRow base e size v n xs :=
  owns_kept h fun k hk _ => Below.heap_setCell w p u k (by have := hv k hk; omega)
/-- One cell of a row that is owned is set. -/
theorem owns_set {w : World} {base : Nat} {e : TypeId} {size : Nat} {v : Value} {n : Nat} {xs : List Value} (h : w.ownsRow base e size v n xs) {g : Nat} (hg : v.ownBlock = some g) (j : Nat) (u : Value) : (w.setCell ⟨g, j, none⟩ u).ownsRow base e size v n (xs.set j u) := by
  refine ⟨by simp [h.1], ?_⟩
  rcases h.2 with ⟨rfl, _⟩ | ⟨g', cap, cur, rfl, hb, hgg, h1, h2, h3, h4⟩
  · simp [Value.ownBlock] at hg
  · simp [Value.ownBlock] at hg
    subst hg
    refine .inr ⟨g', cap, cur.setIfInBounds j u, rfl, hb, ?_, h1, h2, by simp [h3], ?_⟩
    · simp [World.setCell, Array.getElem?_modify, hgg]
    · rw [← h4]; simp [List.take_set]
/-- What the walk wants of a row that is owned: where it lies, its cells, its marks. -/
theorem owns_open {w : World} {base : Nat} {e : TypeId} {size : Nat} {v : Value} {n : Nat} {xs : List Value} (h : w.ownsRow base e size v n xs) (hn : 0 < n) : ∃ g cap, v = .slice (some ⟨g, 0, none⟩) n cap ∧ v.ownBlock = some g ∧ base ≤ g ∧ g < w.heap.size ∧ n ≤ cap ∧ cap ≤ maxLen ∧
    (∀ j u, xs[j]? = some u → w.cell? ⟨g, j, none⟩ = some u) ∧ ∀ j, w.frozen? ⟨g, j, none⟩ = false := by
  rcases h.2 with ⟨rfl, rfl⟩ | ⟨g, cap, cur, rfl, hb, hgg, h1, h2, h3, h4⟩
  · exact absurd hn (Nat.lt_irrefl _)
  · refine ⟨g, cap, rfl, rfl, hb, (Array.getElem?_eq_some_iff.1 hgg).1, h1, h2, fun j u hu => ?_, fun j => by simp [World.frozen?, hgg]⟩
    rw [cell_of_row w g j cur e (0, 0) hgg]
    rw [← h4, List.getElem?_take] at hu
    split at hu
    · simpa using hu
    · cases hu
theorem owns_form {w : World} {base : Nat} {e : TypeId} {size : Nat} {v : Value} {n : Nat} {xs : List Value} (h : w.ownsRow base e size v n xs) : ∃ ad cap, v = .slice ad n cap ∧ n ≤ cap ∧ cap ≤ maxLen := by
  obtain ⟨_, ad, cap, h1, h2, h3, _⟩ := reads_of_owns h
  exact ⟨ad, cap, h1, h2, h3⟩
theorem owns_lt {w : World} {base : Nat} {e : TypeId} {size : Nat} {v : Value} {n : Nat} {xs : List Value} (h : w.ownsRow base e size v n xs) : ∀ k, v.ownBlock = some k → base ≤ k ∧ k < w.heap.size := h.lt

/-- Element i of rows laid one behind the other. -/
theorem flat_get {α : Type} (f : α → List Value) (s : Nat) (hf : ∀ x, (f x).length = s) (L : List α) (i : Nat) (hi : i < L.length) (r : Nat) (hr : r < s) : (L.flatMap f)[i * s + r]? = (f L[i])[r]? := by
  induction L generalizing i with
  | nil => exact absurd hi (Nat.not_lt_zero _)
  | cons x L ih =>
    cases i with
    | zero => simp only [List.flatMap_cons, Nat.zero_mul, Nat.zero_add]; rw [List.getElem?_append_left (by rw [hf]; omega)]; rfl
    | succ i =>
      simp only [List.flatMap_cons]
      rw [List.getElem?_append_right (by rw [hf, Nat.succ_mul]; omega), hf, show (i + 1) * s + r - s = i * s + r by rw [Nat.succ_mul]; omega]
      simpa using ih i (by simpa using hi)
theorem flat_length {α : Type} (f : α → List Value) (s : Nat) (hf : ∀ x, (f x).length = s) (L : List α) : (L.flatMap f).length = L.length * s := by
  induction L with
  | nil => simp
  | cons x L ih => simp only [List.flatMap_cons, List.length_append, List.length_cons, hf, ih, Nat.succ_mul]; omega
theorem flat_set {α : Type} (f : α → List Value) (s : Nat) (hf : ∀ x, (f x).length = s) (L : List α) (i : Nat) (hi : i < L.length) (r : Nat) (hr : r < s) (u : Value) (y : α) (hy : f y = (f L[i]).set r u) : (L.flatMap f).set (i * s + r) u = (L.set i y).flatMap f := by
  induction L generalizing i with
  | nil => exact absurd hi (Nat.not_lt_zero _)
  | cons x L ih =>
    cases i with
    | zero =>
      simp only [List.flatMap_cons, Nat.zero_mul, Nat.zero_add, List.set_cons_zero]
      rw [List.set_append_left _ _ (by rw [hf]; omega), hy]; rfl
    | succ i =>
      simp only [List.flatMap_cons, List.set_cons_succ]
      rw [List.set_append_right _ _ (by rw [hf, Nat.succ_mul]; omega), hf, show (i + 1) * s + r - s = i * s + r by rw [Nat.succ_mul]; omega]
      rw [ih i (by simpa using hi) (by simpa using hy)]
theorem int_eq {a b : Int} (h : a = b) : Value.int .i64 a = .int .i64 b := by rw [h]
theorem pre_set {xs ys : List Value} {m : Nat} {a : Value} (m' : Nat) (h : ∀ j, j < m → xs[j]? = ys[j]?) (hy : ys[m]? = some a) (hm : m < xs.length) (hm' : m' = m + 1) : ∀ j, j < m' → (xs.set m a)[j]? = ys[j]? := by
  intro j hj
  subst hm'
  rw [List.getElem?_set]
  split
  · rename_i h'; subst h'; simp [hy, hm]
  · exact h j (by omega)
theorem pre_end {xs ys : List Value} {m : Nat} (hx : xs.length = m) (hy : ys.length = m) (h : ∀ j, j < m → xs[j]? = ys[j]?) : xs = ys := List.ext_getElem? fun j => by
  by_cases hj : j < m
  · exact h j hj
  · rw [List.getElem?_eq_none (by omega), List.getElem?_eq_none (by omega)]
end Go.Proofs.YtkhclhnejnpkeaaGreat
/- Regions that draw their order and hold calls that make memory: one walk in the order of the text serves them all. -/
namespace Go.Proofs.YtkhclhnejnpkeaaGreat
open Go.RowKit
set_option maxRecDepth 100000
set_option linter.unusedVariables false

/-- A world behind V: of what was in V nothing has turned. -/
structure Later (V : World) where
  w : World
  b : Below V.heap.size V w
theorem later_calls {P : Program} {f : FuncId} {args : Array Value} {V : World} {x : Later V} {v : Value} (h : Calls P f args x.w fun e w' => e = .returned v ∧ Below x.w.heap.size x.w w') :
    Calls P f args x.w fun e w'' => e = .returned v ∧ ∃ y : Later V, w'' = y.w := h.mono fun _ w' h => ⟨h.1, ⟨w', bchain x.b h.2⟩, rfl⟩
theorem later_same {P : Program} {f : FuncId} {args : Array Value} {V : World} {x : Later V} {v : Value} (h : Calls P f args x.w fun e w' => e = .returned v ∧ w' = x.w) :
    Calls P f args x.w fun e w'' => e = .returned v ∧ ∃ y : Later V, w'' = y.w := h.mono fun _ w' h => ⟨h.1, x, h.2⟩
/-- A region that draws its order, whose operations read and whose callees may make memory: one walk in the text's order serves every order. -/
theorem region_later {P : Program} {id : Nat} {Q : Exit → Act → World → Prop} {a : Act} {w : World} {l : List Oper} (hm : P.follows .mixedOrders = true) (hB : Region.lexB .any l.toArray = true)
    (h : wpQuiet P l.toArray (fun w' => ∃ x : Later w, w' = x.w) (fun a' => ∀ w', (∃ x : Later w, w' = x.w) → Q .normal a' w') l a) : (Code.region id l.toArray true).wp P Q a w :=
  wp_region_quiet (C := fun w' => ∃ x : Later w, w' = x.w) hm hB ⟨⟨w.drewN 1, bo_drewN 1 (Below.refl _ _)⟩, rfl⟩ (by simpa using h)

end Go.Proofs.YtkhclhnejnpkeaaGreat
/- What each Go function of chapter 1 (pipes), of the program and of its model, answers at every argument: one contract a function. -/
namespace Go.Proofs.YtkhclhnejnpkeaaGreat
open Go.RowKit
set_option maxRecDepth 100000
set_option linter.unusedSimpArgs false
set_option linter.unusedVariables false

/-- Is a pipe right? -/
def okB (r : Int) (b : ByteArray) (k : Bool) : Bool := decide (1 ≤ r ∧ r ≤ 2000 ∧ (b.size : Int) ≤ r) && (!k || b.toList.isEmpty)

theorem okB_low {r : Int} {b : ByteArray} {k : Bool} (h : ¬ (1 ≤ r ∧ r ≤ 2000 ∧ (b.size : Int) ≤ r)) : okB r b k = false := by simp [okB, h]
theorem okB_rest {r : Int} {b : ByteArray} {k : Bool} (h : 1 ≤ r ∧ r ≤ 2000 ∧ (b.size : Int) ≤ r) : okB r b k = (!k || b.toList.isEmpty) := by simp [okB, h]

theorem sz (r : Int) (b : ByteArray) (e k : Bool) (left : Int) (w : World) (hb : b.size ≤ maxLen) (h0 : 0 ≤ left) (h1 : left ≤ 1048576) :
    Calls Tryz.prog 167 #[.agg #[.int .i64 r, .string b, .bool e, .bool k], .int .i64 left] w fun x w' => x = .returned (.int .i64 (if left - b.size < 0 then -1 else left - b.size)) ∧ Below w.heap.size w w' := by
  unfold maxLen at hb
  by_cases h : left - b.size < 0
  · go_enter Tryz.func167, Tryz.ntmps167
    go_wp2
    go_ret
    exact ⟨by simp [h], (by repeat' (first | (with_reducible exact Below.refl _ _) | (with_reducible refine Below.drew ?_) | (with_reducible refine bo_drewN _ ?_) | (with_reducible refine bo_alloc ?_ _) | (refine bchain ?_ (by with_reducible assumption)) | (with_reducible refine Below.setCell ?_ ?_ _) | go_size))⟩
  · go_enter Tryz.func167, Tryz.ntmps167
    go_wp2
    go_ret
    exact ⟨by simp [h], (by repeat' (first | (with_reducible exact Below.refl _ _) | (with_reducible refine Below.drew ?_) | (with_reducible refine bo_drewN _ ?_) | (with_reducible refine bo_alloc ?_ _) | (refine bchain ?_ (by with_reducible assumption)) | (with_reducible refine Below.setCell ?_ ?_ _) | go_size))⟩

theorem toP (r : Int) (b : ByteArray) (e k : Bool) (w : World) :
    Calls Tryz.prog 168 #[.agg #[.int .i64 r, .string b, .bool e, .bool k]] w fun x w' => x = .returned (.agg #[.int .i64 r, .string b, .bool e, .bool k]) ∧ Below w.heap.size w w' := by
  go_enter Tryz.func168, Tryz.ntmps168
  go_wp2
  go_returns
  exact ⟨rfl, (by repeat' (first | (with_reducible exact Below.refl _ _) | (with_reducible refine Below.drew ?_) | (with_reducible refine bo_drewN _ ?_) | (with_reducible refine bo_alloc ?_ _) | (refine bchain ?_ (by with_reducible assumption)) | (with_reducible refine Below.setCell ?_ ?_ _) | go_size))⟩

theorem eqP (r : Int) (b : ByteArray) (e k : Bool) (w : World) :
    Calls Tryz.prog 169 #[.agg #[.int .i64 r, .string b, .bool e, .bool k], .agg #[.int .i64 r, .string b, .bool e, .bool k]] w fun x w' => x = .returned (.bool true) ∧ Below w.heap.size w w' := by
  go_enter Tryz.func169, Tryz.ntmps169
  go_wp2
  go_ret
  exact ⟨rfl, (by repeat' (first | (with_reducible exact Below.refl _ _) | (with_reducible refine Below.drew ?_) | (with_reducible refine bo_drewN _ ?_) | (with_reducible refine bo_alloc ?_ _) | (refine bchain ?_ (by with_reducible assumption)) | (with_reducible refine Below.setCell ?_ ?_ _) | go_size))⟩

theorem in1 (x lo hi : Int) (w : World) :
    Calls Tryz.prog 27 #[.int .i64 x, .int .i64 lo, .int .i64 hi] w fun e w' => e = .returned (.bool (decide (lo ≤ x ∧ x ≤ hi))) ∧ w' = w := by
  by_cases h1 : lo ≤ x
  · by_cases h2 : x ≤ hi
    · go_enter Tryz.func27, Tryz.ntmps27
      go_wp2
      go_ret
      exact ⟨by simp [h1, h2], rfl⟩
    · have hd : decide (lo ≤ x ∧ x ≤ hi) = false := by simp [h2]
      rw [hd]
      go_enter Tryz.func27, Tryz.ntmps27
      go_wp2
      go_ret
      exact ⟨by simp [h1, h2], rfl⟩
  · have hd : decide (lo ≤ x ∧ x ≤ hi) = false := by simp [h1]
    rw [hd]
    go_enter Tryz.func27, Tryz.ntmps27
    go_wp2
    go_ret
    exact ⟨rfl, rfl⟩

theorem specOk (r : Int) (b : ByteArray) (e k : Bool) (w : World) (hb : b.size ≤ maxLen) :
    Calls Tryz.prog 101 #[.agg #[.int .i64 r, .string b, .bool e, .bool k]] w fun x w' => x = .returned (.bool (okB r b k)) ∧ Below w.heap.size w w' := by
  unfold maxLen at hb
  by_cases h1 : 1 ≤ r ∧ r ≤ 2000
  · have hd : decide (1 ≤ r ∧ r ≤ 2000) = true := by simp [h1]
    by_cases h2 : (b.size : Int) ≤ r
    · rw [okB_rest ⟨h1.1, h1.2, h2⟩]
      cases k
      · go_enter Tryz.func101, Tryz.ntmps101
        go_wp2_with (go_at_call 27; refine (in1 _ _ _ _).mono ?_; rintro x w' ⟨rfl, rfl⟩)
        go_ret
        exact ⟨by simp, (by repeat' (first | (with_reducible exact Below.refl _ _) | (with_reducible refine Below.drew ?_) | (with_reducible refine bo_drewN _ ?_) | (with_reducible refine bo_alloc ?_ _) | (refine bchain ?_ (by with_reducible assumption)) | (with_reducible refine Below.setCell ?_ ?_ _) | go_size))⟩
      · go_enter Tryz.func101, Tryz.ntmps101
        go_wp2_with (go_at_call 27; refine (in1 _ _ _ _).mono ?_; rintro x w' ⟨rfl, rfl⟩)
        go_ret
        exact ⟨by simp, (by repeat' (first | (with_reducible exact Below.refl _ _) | (with_reducible refine Below.drew ?_) | (with_reducible refine bo_drewN _ ?_) | (with_reducible refine bo_alloc ?_ _) | (refine bchain ?_ (by with_reducible assumption)) | (with_reducible refine Below.setCell ?_ ?_ _) | go_size))⟩
    · rw [okB_low (fun h => h2 h.2.2)]
      go_enter Tryz.func101, Tryz.ntmps101
      go_wp2_with (go_at_call 27; refine (in1 _ _ _ _).mono ?_; rintro x w' ⟨rfl, rfl⟩)
      go_ret
      exact ⟨rfl, (by repeat' (first | (with_reducible exact Below.refl _ _) | (with_reducible refine Below.drew ?_) | (with_reducible refine bo_drewN _ ?_) | (with_reducible refine bo_alloc ?_ _) | (refine bchain ?_ (by with_reducible assumption)) | (with_reducible refine Below.setCell ?_ ?_ _) | go_size))⟩
  · have hd : decide (1 ≤ r ∧ r ≤ 2000) = false := by simp [h1]
    rw [okB_low (fun h => h1 ⟨h.1, h.2.1⟩)]
    go_enter Tryz.func101, Tryz.ntmps101
    go_wp2_with (go_at_call 27; refine (in1 _ _ _ _).mono ?_; rintro x w' ⟨rfl, rfl⟩)
    go_ret
    exact ⟨rfl, (by repeat' (first | (with_reducible exact Below.refl _ _) | (with_reducible refine Below.drew ?_) | (with_reducible refine bo_drewN _ ?_) | (with_reducible refine bo_alloc ?_ _) | (refine bchain ?_ (by with_reducible assumption)) | (with_reducible refine Below.setCell ?_ ?_ _) | go_size))⟩

theorem right (r : Int) (b : ByteArray) (e k : Bool) (w : World) (hb : b.size ≤ maxLen) :
    Calls Tryz.prog 166 #[.agg #[.int .i64 r, .string b, .bool e, .bool k]] w fun x w' => x = .returned (.bool (okB r b k)) ∧ Below w.heap.size w w' := by
  unfold maxLen at hb
  by_cases h1 : r < 1
  · rw [okB_low (fun h => by omega)]
    go_enter Tryz.func166, Tryz.ntmps166
    go_wp2
    go_ret
    exact ⟨rfl, (by repeat' (first | (with_reducible exact Below.refl _ _) | (with_reducible refine Below.drew ?_) | (with_reducible refine bo_drewN _ ?_) | (with_reducible refine bo_alloc ?_ _) | (refine bchain ?_ (by with_reducible assumption)) | (with_reducible refine Below.setCell ?_ ?_ _) | go_size))⟩
  · by_cases h2 : 2000 < r
    · rw [okB_low (fun h => by omega)]
      go_enter Tryz.func166, Tryz.ntmps166
      go_wp2
      go_ret
      exact ⟨rfl, (by repeat' (first | (with_reducible exact Below.refl _ _) | (with_reducible refine Below.drew ?_) | (with_reducible refine bo_drewN _ ?_) | (with_reducible refine bo_alloc ?_ _) | (refine bchain ?_ (by with_reducible assumption)) | (with_reducible refine Below.setCell ?_ ?_ _) | go_size))⟩
    · by_cases h3 : r < (b.size : Int)
      · rw [okB_low (fun h => by omega)]
        go_enter Tryz.func166, Tryz.ntmps166
        go_wp2
        go_ret
        exact ⟨rfl, (by repeat' (first | (with_reducible exact Below.refl _ _) | (with_reducible refine Below.drew ?_) | (with_reducible refine bo_drewN _ ?_) | (with_reducible refine bo_alloc ?_ _) | (refine bchain ?_ (by with_reducible assumption)) | (with_reducible refine Below.setCell ?_ ?_ _) | go_size))⟩
      · rw [okB_rest (by omega)]
        cases k
        · go_enter Tryz.func166, Tryz.ntmps166
          go_wp2
          go_ret
          exact ⟨by simp, (by repeat' (first | (with_reducible exact Below.refl _ _) | (with_reducible refine Below.drew ?_) | (with_reducible refine bo_drewN _ ?_) | (with_reducible refine bo_alloc ?_ _) | (refine bchain ?_ (by with_reducible assumption)) | (with_reducible refine Below.setCell ?_ ?_ _) | go_size))⟩
        · go_enter Tryz.func166, Tryz.ntmps166
          go_wp2
          go_ret
          exact ⟨by simp, (by repeat' (first | (with_reducible exact Below.refl _ _) | (with_reducible refine Below.drew ?_) | (with_reducible refine bo_drewN _ ?_) | (with_reducible refine bo_alloc ?_ _) | (refine bchain ?_ (by with_reducible assumption)) | (with_reducible refine Below.setCell ?_ ?_ _) | go_size))⟩





end Go.Proofs.YtkhclhnejnpkeaaGreat
/- What is in range: the program's word for it and the model's. -/
namespace Go.Proofs.YtkhclhnejnpkeaaGreat
open Go.RowKit
set_option maxRecDepth 100000
set_option linter.unusedSimpArgs false
set_option linter.unusedVariables false

/-- Is x from lo to hi? -/
def inB (x lo hi : Int) : Bool := decide (lo ≤ x ∧ x ≤ hi)
theorem inB_true {x lo hi : Int} (h : inB x lo hi = true) : lo ≤ x ∧ x ≤ hi := of_decide_eq_true h
theorem inB_of {x lo hi : Int} (h : lo ≤ x) (h' : x ≤ hi) : inB x lo hi = true := decide_eq_true ⟨h, h'⟩
theorem inB_not {x lo hi : Int} (h : ¬ (lo ≤ x ∧ x ≤ hi)) : inB x lo hi = false := decide_eq_false h
theorem inB_false {x lo hi : Int} (h : inB x lo hi = false) : ¬ (lo ≤ x ∧ x ≤ hi) := of_decide_eq_false h

theorem implWithin (x lo hi : Int) (w : World) : Calls Tryz.prog 42 #[.int .i64 x, .int .i64 lo, .int .i64 hi] w fun e w' => e = .returned (.bool (inB x lo hi)) ∧ w' = w := by
  by_cases h1 : lo ≤ x
  · by_cases h2 : x ≤ hi
    · have : inB x lo hi = true := decide_eq_true ⟨h1, h2⟩
      rw [this]
      go_enter Tryz.func42, Tryz.ntmps42
      go_wp2_with fail
      go_ret
      simp
    · have : inB x lo hi = false := decide_eq_false (by omega)
      rw [this]
      go_enter Tryz.func42, Tryz.ntmps42
      go_wp2_with fail
      go_ret
      simp
  · have : inB x lo hi = false := decide_eq_false (by omega)
    rw [this]
    go_enter Tryz.func42, Tryz.ntmps42
    go_wp2_with fail
    go_ret
    simp

theorem specIn (x lo hi : Int) (w : World) : Calls Tryz.prog 27 #[.int .i64 x, .int .i64 lo, .int .i64 hi] w fun e w' => e = .returned (.bool (inB x lo hi)) ∧ w' = w := by
  by_cases h1 : lo ≤ x
  · by_cases h2 : x ≤ hi
    · have : inB x lo hi = true := decide_eq_true ⟨h1, h2⟩
      rw [this]
      go_enter Tryz.func27, Tryz.ntmps27
      go_wp2_with fail
      go_ret
      simp
    · have : inB x lo hi = false := decide_eq_false (by omega)
      rw [this]
      go_enter Tryz.func27, Tryz.ntmps27
      go_wp2_with fail
      go_ret
      simp
  · have : inB x lo hi = false := decide_eq_false (by omega)
    rw [this]
    go_enter Tryz.func27, Tryz.ntmps27
    go_wp2_with fail
    go_ret
    simp
end Go.Proofs.YtkhclhnejnpkeaaGreat
/- The cursor from which the laws draw their inputs: what its functions do to memory, and in what range they answer. -/
namespace Go.Proofs.YtkhclhnejnpkeaaGreat
open Go.RowKit
set_option maxRecDepth 100000
set_option linter.unusedSimpArgs false
set_option linter.unusedVariables false

/-- Of what was there nothing has turned but block g. -/
structure Moves (g : Nat) (w w' : World) : Prop where
  os : w'.os = w.os
  tape : w'.tape = w.tape
  output : w'.output = w.output
  size : w.heap.size ≤ w'.heap.size
  block : ∀ k, k < w.heap.size → k ≠ g → w'.heap[k]? = w.heap[k]?

theorem Moves.refl (g : Nat) (w : World) : Moves g w w := ⟨rfl, rfl, rfl, Nat.le_refl _, fun _ _ _ => rfl⟩
theorem Moves.trans {g : Nat} {a b c : World} (h : Moves g a b) (k : Moves g b c) : Moves g a c :=
  ⟨k.os.trans h.os, k.tape.trans h.tape, k.output.trans h.output, Nat.le_trans h.size k.size, fun i hi hg => (k.block i (Nat.lt_of_lt_of_le hi h.size) hg).trans (h.block i hi hg)⟩
theorem Moves.of_below {g : Nat} {a b : World} (h : Below a.heap.size a b) : Moves g a b := ⟨h.os, h.tape, h.output, h.size, fun k hk _ => h.block k hk⟩
theorem Moves.drewN {g : Nat} {a b : World} (n : Nat) (h : Moves g a b) : Moves g a (b.drewN n) := ⟨h.os, h.tape, h.output, h.size, h.block⟩
theorem Moves.drew {g : Nat} {a b : World} (h : Moves g a b) : Moves g a b.drew := ⟨h.os, h.tape, h.output, h.size, h.block⟩
theorem Moves.alloc {g : Nat} {a b : World} (h : Moves g a b) (o : Obj) : Moves g a (b.alloc o) := h.trans (Moves.of_below (Joins.below_alloc1 b o))
theorem Moves.set {g : Nat} {a b : World} (h : Moves g a b) (o : Nat) (v : Value) : Moves g a (b.setCell ⟨g, o, none⟩ v) :=
  h.trans ⟨rfl, rfl, rfl, by simp, fun k _ hg => Below.heap_setCell b ⟨g, o, none⟩ v k hg⟩
theorem Moves.below {g B : Nat} {a b : World} (h : Moves g a b) (h1 : B ≤ g) (h2 : B ≤ a.heap.size) : Below B a b := ⟨h.os, h.tape, h.output, h.size, fun k hk => h.block k (by omega) (by omega)⟩
theorem Moves.cell {g : Nat} {a b : World} (h : Moves g a b) (k o : Nat) (h1 : k < a.heap.size) (h2 : k ≠ g) : b.cell? ⟨k, o, none⟩ = a.cell? ⟨k, o, none⟩ := World.cell?_of_block (w := a) (h.block k h1 h2)
theorem Moves.frozen {g : Nat} {a b : World} (h : Moves g a b) (k o : Nat) (h1 : k < a.heap.size) (h2 : k ≠ g) : b.frozen? ⟨k, o, none⟩ = a.frozen? ⟨k, o, none⟩ := World.frozen?_of_block (w := a) (h.block k h1 h2)

/-- The bytes of the draw, in blocks below B. -/
def CodeAt (w : World) (a : Option Addr) (len B : Nat) : Prop := ∀ j, j < len → ∃ (b o : Nat) (z : Int), a = some ⟨b, o, none⟩ ∧ b < B ∧ 0 ≤ z ∧ z ≤ 255 ∧ w.cell? ⟨b, o + j, none⟩ = some (.int .u8 z)

theorem CodeAt.kept {w w' : World} {a : Option Addr} {len B : Nat} (h : CodeAt w a len B) (hb : Below B w w') : CodeAt w' a len B := fun j hj => by
  obtain ⟨b, o, z, h1, h2, h3, h4, h5⟩ := h j hj
  exact ⟨b, o, z, h1, h2, h3, h4, by rw [hb.cell (p := ⟨b, o + j, none⟩) h2]; exact h5⟩

end Go.Proofs.YtkhclhnejnpkeaaGreat
/- Texts out of rows of bytes. -/
namespace Go.Proofs.YtkhclhnejnpkeaaGreat
open Go.RowKit
set_option maxRecDepth 100000
set_option linter.unusedSimpArgs false
set_option linter.unusedVariables false

/-- A text out of numbers. -/
def strOf (l : List Int) : ByteArray := ⟨(l.map fun z => UInt8.ofNat z.toNat).toArray⟩
end Go.Proofs.YtkhclhnejnpkeaaGreat
/- The library's strings.Clone at this program: it hands back the same bytes. Laid off the shelf's own contract. -/
namespace Go.Proofs.YtkhclhnejnpkeaaGreat
open Go.Shelf Go.RowKit
def cloneRen : Go.Shelf.Ren := ⟨fun | 316 => 96 | n => n, fun | 0 => 0 | 3 => 3 | 4 => 4 | 9 => 9 | 37 => 149 | 127 => 180 | 5 => 5 | n => n, fun | n => n⟩
theorem cloneLays : Go.Proofs.LaysM.n316 Tryz.prog cloneRen := {
  mixed := by kernel_rfl
  f316 := Tryz.func96.trans (congrArg some (by kernel_rfl))
  t0 := Tryz.underlying0
  a0 := Tryz.isAgg0
  z0 := Tryz.sizeOf0
  v0 := Tryz.zeroValue0
  t3 := Tryz.underlying3
  a3 := Tryz.isAgg3
  z3 := Tryz.sizeOf3
  v3 := Tryz.zeroValue3
  t4 := Tryz.underlying4
  a4 := Tryz.isAgg4
  z4 := Tryz.sizeOf4
  v4 := Tryz.zeroValue4
  t9 := Tryz.underlying9
  a9 := Tryz.isAgg9
  z9 := Tryz.sizeOf9
  v9 := Tryz.zeroValue9
  t37 := Tryz.underlying149
  a37 := Tryz.isAgg149
  z37 := Tryz.sizeOf149
  v37 := Tryz.zeroValue149
  t127 := Tryz.underlying180
  a127 := Tryz.isAgg180
  z127 := Tryz.sizeOf180
  v127 := Tryz.zeroValue180
  t5 := Tryz.underlying5
  a5 := Tryz.isAgg5
  z5 := Tryz.sizeOf5
  v5 := Tryz.zeroValue5
  i0 := by kernel_rfl
  i3 := by kernel_rfl
  i4 := by kernel_rfl
  i9 := by kernel_rfl
  i37 := by kernel_rfl
  i127 := by kernel_rfl
  i5 := by kernel_rfl }
theorem clone0 (s : ByteArray) (w : World) (hlim : s.size ≤ 281474976710656) :
    Calls Tryz.prog 96 #[.string s] w fun e w' => e = .returned (.string s) ∧ Below w.heap.size w w' := Any.stringslite_Clone cloneLays s w hlim

theorem clone (s : ByteArray) (w : World) (hlim : s.size ≤ 281474976710656) :
    Calls Tryz.prog 57 #[.string s] w fun e w' => e = .returned (.string s) ∧ Below w.heap.size w w' := by
  go_enter Tryz.func57, Tryz.ntmps57
  go_wp2_with fail
  refine (clone0 s _ hlim).mono ?_; rintro x w1 ⟨rfl, hb1⟩
  go_wp2_with fail
  go_ret
  exact ⟨rfl, hb1⟩
end Go.Proofs.YtkhclhnejnpkeaaGreat
/- A map whose keys are pairs of numbers and whose values are nothing: a set, told by the list of what was put into it; how many it holds. -/
namespace Go.Proofs.YtkhclhnejnpkeaaGreat
open Go.RowKit
set_option maxRecDepth 100000
set_option linter.unusedSimpArgs false
set_option linter.unusedVariables false
/-- One more of a set, told as a list. -/
def insB (K : List (Int × Int)) (x : Int × Int) : List (Int × Int) := if x ∈ K then K else K ++ [x]
def setB (L : List (Int × Int)) : List (Int × Int) := L.foldl insB []
theorem setB_snoc (L : List (Int × Int)) (x : Int × Int) : setB (L ++ [x]) = insB (setB L) x := by unfold setB; rw [List.foldl_append]; rfl
theorem len_foldB : ∀ (L K : List (Int × Int)), (L.foldl insB K).length ≤ K.length + L.length ∧ ((L.foldl insB K).length = K.length + L.length ↔ L.Nodup ∧ ∀ x ∈ L, x ∉ K)
  | [], K => by simp
  | x :: L, K => by
    have ih := len_foldB L (insB K x)
    rw [List.foldl_cons, List.length_cons]
    by_cases h : x ∈ K
    · have hi : insB K x = K := by unfold insB; rw [if_pos h]
      rw [hi] at ih ⊢
      refine ⟨by omega, ⟨fun e => absurd e (by omega), fun ⟨_, hn⟩ => absurd h (hn x (by simp))⟩⟩
    · have hi : insB K x = K ++ [x] := by unfold insB; rw [if_neg h]
      rw [hi] at ih ⊢
      rw [List.length_append, List.length_singleton] at ih
      refine ⟨by omega, ?_⟩
      rw [show K.length + (L.length + 1) = K.length + 1 + L.length by omega, ih.2, List.nodup_cons]
      constructor
      · rintro ⟨hd, hn⟩
        refine ⟨⟨fun hx => hn x hx (by simp), hd⟩, fun y hy => ?_⟩
        rcases List.mem_cons.1 hy with rfl | hy
        · exact h
        · exact fun hk => hn y hy (by simp [hk])
      · rintro ⟨⟨hx, hd⟩, hn⟩
        refine ⟨hd, fun y hy hk => ?_⟩
        rcases List.mem_append.1 hk with hk | hk
        · exact hn y (by simp [hy]) hk
        · simp at hk; subst hk; exact hx hy
theorem len_setB (L : List (Int × Int)) : (setB L).length ≤ L.length ∧ ((setB L).length = L.length ↔ L.Nodup) := by
  have h := len_foldB L []
  simp only [List.length_nil, Nat.zero_add, List.not_mem_nil, not_false_eq_true, implies_true, and_true] at h
  exact h
abbrev btKey (x : Int × Int) : Value := .agg #[.int .i64 x.1, .int .i64 x.2]
def MapSet (w : World) (g : Nat) (K : List (Int × Int)) : Prop :=
  ∃ es clock, w.heap[g]? = some (.map es clock) ∧ es.toList.map (·.key) = K.map btKey
theorem bt_equal (x y : Int × Int) (w : World) : (Op.equal 99 (btKey x) (btKey y)).run Tryz.prog w = .ok (decide (x = y)) w := by
  obtain ⟨s, e⟩ := x
  obtain ⟨a, b⟩ := y
  unfold Op.equal Op.maxDepth
  rw [run_equalIn_agg (P := Tryz.prog) w 9999 99 _ _ (by kernel_rfl) (by kernel_rfl)]
  have h1 : (Tryz.prog.fieldsOf 99).toList = [⟨ "seat", 2, 0, false, "", "loop.example/g00296/impl", 0⟩, ⟨ "id", 2, 1, false, "", "loop.example/g00296/impl", 8⟩] := by kernel_rfl
  rw [h1]
  have p0 : ∀ u v : Int, (part 2 #[.int .i64 u, .int .i64 v] 0).run Tryz.prog w = .ok (.int .i64 u) w := fun u v => by kernel_rfl
  have p1 : ∀ u v : Int, (part 2 #[.int .i64 u, .int .i64 v] 1).run Tryz.prog w = .ok (.int .i64 v) w := fun u v => by kernel_rfl
  simp [Op.eqFields, p0, p1, run_equalIn_int (P := Tryz.prog) w 9998 2 .i64 .i64 _ _ (by kernel_rfl)]
  by_cases h : s = a <;> by_cases h' : e = b <;> simp [h, h']
theorem bt_check (c : Bool) (x : Int × Int) (w : World) : (Instr.checkKey c 10000 99 (btKey x)).run Tryz.prog w = .ok () w := by
  kernel_rfl
theorem bt_find (x : Int × Int) (w : World) : ∀ (es : List MapEntry) (K : List (Int × Int)) (i : Nat), es.map (·.key) = K.map btKey →
    (x ∈ K → ∃ j v, i ≤ j ∧ (es[j - i]?).map (·.key) = some (btKey x) ∧ (Instr.findAsking 99 (btKey x) es i).run Tryz.prog w = .ok (some (j, v)) w) ∧ (x ∉ K → (Instr.findAsking 99 (btKey x) es i).run Tryz.prog w = .ok none w)
  | [], K, i, h => by
    obtain rfl : K = [] := by simpa using h.symm
    exact ⟨fun h => (by cases h), fun _ => (by simp [Instr.findAsking])⟩
  | z :: es, [], i, h => by simp at h
  | z :: es, y :: K, i, h => by
    simp only [List.map_cons, List.cons.injEq] at h
    have ih := bt_find x w es K (i + 1) h.2
    have hq := bt_equal x y w
    by_cases hs : x = y
    · subst hs
      simp at hq
      refine ⟨fun _ => ⟨i, z.val, Nat.le_refl _, by simp [h.1], ?_⟩, fun hn => absurd (by simp) hn⟩
      simp [Instr.findAsking, h.1, hq]
    · have hd : decide (x = y) = false := by simpa using hs
      rw [hd] at hq
      have hstep : (Instr.findAsking 99 (btKey x) (z :: es) i).run Tryz.prog w = (Instr.findAsking 99 (btKey x) es (i + 1)).run Tryz.prog w := by simp [Instr.findAsking, h.1, hq]
      rw [hstep]
      constructor
      · intro hm
        rcases List.mem_cons.1 hm with e | hm
        · exact absurd e hs
        · obtain ⟨j, v, hj, hk, hr⟩ := ih.1 hm
          refine ⟨j, v, by omega, ?_, hr⟩
          rw [show j - i = (j - (i + 1)) + 1 by omega, List.getElem?_cons_succ]
          exact hk
      · intro hn
        exact ih.2 (fun hm => hn (by simp [hm]))
theorem bt_findKey (x : Int × Int) (w : World) (es : List MapEntry) : (Instr.findKey 99 (btKey x) es).run Tryz.prog w = (Instr.findAsking 99 (btKey x) es 0).run Tryz.prog w := by
  unfold Instr.findKey
  have hu : (underlying 99).run Tryz.prog w = .ok (.struct (Tryz.prog.fieldsOf 99)) w := by kernel_rfl
  cases es with
  | nil => simp [hu, Instr.findNow, Instr.findAsking]
  | cons z es =>
    have hn : Instr.findNow (.struct (Tryz.prog.fieldsOf 99)) (btKey x) (z :: es) 0 = none := by
      simp [Instr.findNow, Instr.sameNow]
    simp [hu, hn]
theorem bt_bits (x : Int × Int) : Instr.sameBits 10000 (btKey x) (btKey x) = true := by
  obtain ⟨a, b⟩ := x
  simp [Instr.sameBits]
theorem bt_update {w : World} {g : Nat} {K : List (Int × Int)} (h : MapSet w g K) (x : Int × Int) (u : Value) : ∃ w', (Instr.mapUpdate 168 (.map (some g)) (btKey x) u).run Tryz.prog w = .ok () w' ∧ MapSet w' g (insB K x) ∧ w.grownBy w' (some g) := by
  obtain ⟨es, clock, hb, h1⟩ := h
  have hu : (underlying 168).run Tryz.prog w = .ok (.map 99 172) w := by kernel_rfl
  have hg : (getObj g).run Tryz.prog w = .ok (.map es clock) w := MapKept.run_getObj_map hb
  have hf := bt_find x w es.toList K 0 h1
  have hK := bt_findKey x w es.toList
  by_cases hx : x ∈ K
  · obtain ⟨j, v, _, hk, hr⟩ := hf.1 hx
    have hK2 : (Instr.findKey 99 (btKey x) es.toList).run Tryz.prog w = .ok (some (j, v)) w := by rw [hK]; exact hr
    have hkj : (es[j]?).map (·.key) = some (btKey x) := by simpa using hk
    have hst : (Instr.keyThatStays (((es[j]?).map (·.key)).getD (btKey x)) (btKey x)).run Tryz.prog w = .ok (btKey x) w := by
      rw [hkj]
      simp [Instr.keyThatStays, bt_bits]
    have hset : (setObj g (.map (es.modify j fun e => { e with key := btKey x, val := u }) clock)).run Tryz.prog w = .ok () (ChangeMaps.setBlock w g (.map (es.modify j fun e => { e with key := btKey x, val := u }) clock)) := MapKept.run_setObj_map _ hb
    refine ⟨ChangeMaps.setBlock w g (.map (es.modify j fun e => { e with key := btKey x, val := u }) clock), ?_, ⟨_, _, ChangeMaps.heap_setBlock_same hb _, ?_⟩, ⟨rfl, rfl, rfl, by simp [ChangeMaps.setBlock], fun i _ hi => ChangeMaps.heap_setBlock_other hb _ (fun e => hi (by rw [e]))⟩⟩
    · simp [Instr.mapUpdate, hu, hg, bt_check, hK2, hst, hset]
    · have e : insB K x = K := by unfold insB; rw [if_pos hx]
      rw [e, ← h1]
      apply List.ext_getElem?
      intro i
      simp only [List.getElem?_map, Array.toList_modify, List.getElem?_modify]
      by_cases hi : j = i
      · subst hi
        cases he : es[j]? with
        | none => rw [he] at hkj; cases hkj
        | some z => rw [he] at hkj; simp at hkj; simp [he, hkj]
      · simp [hi]
  · have hr := hf.2 hx
    have hK2 : (Instr.findKey 99 (btKey x) es.toList).run Tryz.prog w = .ok none w := by rw [hK]; exact hr
    have hset : (setObj g (.map (es.push ⟨btKey x, u, clock⟩) (clock + 1))).run Tryz.prog w = .ok () (ChangeMaps.setBlock w g (.map (es.push ⟨btKey x, u, clock⟩) (clock + 1))) := MapKept.run_setObj_map _ hb
    refine ⟨ChangeMaps.setBlock w g (.map (es.push ⟨btKey x, u, clock⟩) (clock + 1)), ?_, ⟨_, _, ChangeMaps.heap_setBlock_same hb _, ?_⟩, ⟨rfl, rfl, rfl, by simp [ChangeMaps.setBlock], fun i _ hi => ChangeMaps.heap_setBlock_other hb _ (fun e => hi (by rw [e]))⟩⟩
    · simp [Instr.mapUpdate, hu, hg, bt_check, hK2, hset]
    · have e : insB K x = K ++ [x] := by unfold insB; rw [if_neg hx]
      rw [e]
      simp [h1]
theorem bt_len {w : World} {g : Nat} {K : List (Int × Int)} (h : MapSet w g K) (ty : TypeId) : (Builtin.len_ #[168] ty #[.map (some g)]).run Tryz.prog w = .ok (.int .i64 K.length) w := by
  obtain ⟨es, clock, hb, h1⟩ := h
  have hu : (underlying 168).run Tryz.prog w = .ok (.map 99 172) w := by kernel_rfl
  have hg : (getObj g).run Tryz.prog w = .ok (.map es clock) w := MapKept.run_getObj_map hb
  have hl : es.size = K.length := by have := congrArg List.length h1; simpa using this
  simp [Builtin.len_, hu, hg, goInt, hl]
theorem bt_made (w : World) : MapSet (w.alloc (.map #[] 0)) w.heap.size [] := ⟨#[], 0, (MapKept.heap_alloc w _).1, rfl⟩
theorem MapSet.kept {w w' : World} {g : Nat} {K : List (Int × Int)} (h : MapSet w g K) (hk : w'.heap[g]? = w.heap[g]?) : MapSet w' g K := by
  obtain ⟨es, clock, hb, r⟩ := h
  exact ⟨es, clock, hk.trans hb, r⟩
theorem MapSet.lt {w : World} {g : Nat} {K : List (Int × Int)} (h : MapSet w g K) : g < w.heap.size := by
  obtain ⟨es, clock, hb, r⟩ := h
  exact (Array.getElem?_eq_some_iff.1 hb).1
theorem MapSet.new {w w' : World} {g : Nat} {K : List (Int × Int)} (h : MapSet w g K) (hb : Below w.heap.size w w') : MapSet w' g K := h.kept (hb.block g h.lt)
end Go.Proofs.YtkhclhnejnpkeaaGreat
/- A map from texts to numbers: what is looked up in it, what is written into it, in words of a function from texts to numbers. -/
namespace Go.Proofs.YtkhclhnejnpkeaaGreat
open Go.RowKit
set_option maxRecDepth 100000
set_option linter.unusedSimpArgs false
set_option linter.unusedVariables false

def MapStr (w : World) (g : Nat) (f : ByteArray → Option Int) : Prop :=
  ∃ es clock, w.heap[g]? = some (.map es clock) ∧ (∀ x ∈ es.toList, ∃ s v, x.key = .string s ∧ x.val = .int .i64 v ∧ f s = some v) ∧ (∀ s v, f s = some v → ∃ x ∈ es.toList, x.key = .string s)
theorem ms_find (s : ByteArray) (f : ByteArray → Option Int) : ∀ (es : List MapEntry) (i : Nat), (∀ x ∈ es, ∃ s v, x.key = .string s ∧ x.val = .int .i64 v ∧ f s = some v) →
    ((∃ x ∈ es, x.key = .string s) → ∃ j v, f s = some v ∧ Instr.findNow .string (.string s) es i = some (some (j, .int .i64 v))) ∧ ((¬ ∃ x ∈ es, x.key = .string s) → Instr.findNow .string (.string s) es i = some none)
  | [], i, _ => ⟨fun ⟨x, hx, _⟩ => (by cases hx), fun _ => (by simp [Instr.findNow])⟩
  | x :: es, i, h => by
    obtain ⟨a, v, hk, hv, hf⟩ := h x (by simp)
    have ih := ms_find s f es (i + 1) (fun y hy => h y (by simp [hy]))
    by_cases hs : s = a
    · subst hs
      refine ⟨fun _ => ⟨i, v, hf, ?_⟩, fun hn => absurd ⟨x, by simp, hk⟩ hn⟩
      have hss : (s == s) = true := (MapKept.bytes_beq s s).2 rfl
      simp [Instr.findNow, Instr.sameNow, hk, hv, hss]
    · have hd : (s == a) = false := Bool.eq_false_iff.2 fun c => hs ((MapKept.bytes_beq s a).1 c)
      have hstep : Instr.findNow .string (.string s) (x :: es) i = Instr.findNow .string (.string s) es (i + 1) := by simp [Instr.findNow, Instr.sameNow, hk, hd]
      rw [hstep]
      have hne : x.key ≠ .string s := by
        rw [hk]; intro hh; apply hs
        injection hh with hh
        exact hh.symm
      constructor
      · rintro ⟨y, hy, hyk⟩
        rcases List.mem_cons.1 hy with rfl | hy
        · exact absurd hyk hne
        · exact ih.1 ⟨y, hy, hyk⟩
      · intro hn
        exact ih.2 (fun ⟨y, hy, hyk⟩ => hn ⟨y, by simp [hy], hyk⟩)
theorem ms_check (c : Bool) (s : ByteArray) (w : World) : (Instr.checkKey c 10000 9 (.string s)).run Tryz.prog w = .ok () w := by
  kernel_rfl
theorem ms_findKey (s : ByteArray) (w : World) (es : List MapEntry) {r : Option (Nat × Value)} (h : Instr.findNow .string (.string s) es 0 = some r) : (Instr.findKey 9 (.string s) es).run Tryz.prog w = .ok r w := by
  unfold Instr.findKey
  have hu : (underlying 9).run Tryz.prog w = .ok .string w := by kernel_rfl
  simp [hu, h]
theorem ms_lookup {w : World} {g : Nat} {f : ByteArray → Option Int} (h : MapStr w g f) (s : ByteArray) : (Instr.lookup 166 (.map (some g)) (.string s) true).run Tryz.prog w = .ok (.tuple #[.int .i64 ((f s).getD 0), .bool (f s).isSome]) w := by
  obtain ⟨es, clock, hb, h1, h2⟩ := h
  have hu : (underlying 166).run Tryz.prog w = .ok (.map 9 3) w := by kernel_rfl
  have hg : (getObj g).run Tryz.prog w = .ok (.map es clock) w := MapKept.run_getObj_map hb
  have hz : (zeroValue 3).run Tryz.prog w = .ok (.int .i64 0) w := by kernel_rfl
  have hf := ms_find s f es.toList 0 h1
  by_cases hex : ∃ x ∈ es.toList, x.key = .string s
  · obtain ⟨j, v, hv, hr⟩ := hf.1 hex
    have hK2 := ms_findKey s w es.toList hr
    simp [Instr.lookup, hu, hg, ms_check, hK2, hv]
  · have hr := hf.2 hex
    have hv : f s = none := by
      cases hh : f s with
      | none => rfl
      | some v => exact absurd (h2 s v hh) hex
    have hK2 := ms_findKey s w es.toList hr
    simp [Instr.lookup, hu, hg, ms_check, hK2, hv, hz]
def sPut (f : ByteArray → Option Int) (s : ByteArray) (v : Int) : ByteArray → Option Int := fun a => if a = s then some v else f a
theorem ms_update {w : World} {g : Nat} {f : ByteArray → Option Int} (h : MapStr w g f) (s : ByteArray) (v : Int) (hn : f s = none) : ∃ w', (Instr.mapUpdate 166 (.map (some g)) (.string s) (.int .i64 v)).run Tryz.prog w = .ok () w' ∧ MapStr w' g (sPut f s v) ∧ w.grownBy w' (some g) := by
  obtain ⟨es, clock, hb, h1, h2⟩ := h
  have hu : (underlying 166).run Tryz.prog w = .ok (.map 9 3) w := by kernel_rfl
  have hg : (getObj g).run Tryz.prog w = .ok (.map es clock) w := MapKept.run_getObj_map hb
  have hf := ms_find s f es.toList 0 h1
  have hex : ¬ ∃ x ∈ es.toList, x.key = .string s := by
    rintro ⟨x, hx, hxk⟩
    obtain ⟨a, v', hk', _, hf'⟩ := h1 x hx
    rw [hk'] at hxk
    injection hxk with hxk
    rw [hxk, hn] at hf'
    cases hf'
  have hK2 := ms_findKey s w es.toList (hf.2 hex)
  refine ⟨ChangeMaps.setBlock w g (.map (es.push ⟨.string s, .int .i64 v, clock⟩) (clock + 1)), ?_, ?_, ?_⟩
  · have hset : (setObj g (.map (es.push ⟨.string s, .int .i64 v, clock⟩) (clock + 1))).run Tryz.prog w = .ok () (ChangeMaps.setBlock w g (.map (es.push ⟨.string s, .int .i64 v, clock⟩) (clock + 1))) := by
      exact MapKept.run_setObj_map _ hb
    simp [Instr.mapUpdate, hu, hg, ms_check, hK2, hset]
  · refine ⟨_, _, ChangeMaps.heap_setBlock_same hb _, ?_, ?_⟩
    · intro x hx
      simp at hx
      rcases hx with hx | rfl
      · obtain ⟨a, v', hk', hv', hf'⟩ := h1 x (by simpa using hx)
        refine ⟨a, v', hk', hv', ?_⟩
        unfold sPut
        split
        · rename_i hab
          rw [hab, hn] at hf'
          cases hf'
        · exact hf'
      · exact ⟨s, v, rfl, rfl, by simp [sPut]⟩
    · intro a v' hv'
      unfold sPut at hv'
      split at hv'
      · rename_i hab
        obtain rfl := hab
        exact ⟨⟨.string a, .int .i64 v, clock⟩, by simp, rfl⟩
      · obtain ⟨x, hx, hxk⟩ := h2 a v' hv'
        exact ⟨x, by simp at hx ⊢; exact Or.inl hx, hxk⟩
  · exact ⟨rfl, rfl, rfl, by simp [ChangeMaps.setBlock], fun i _ hi => ChangeMaps.heap_setBlock_other hb _ (fun e => hi (by rw [e]))⟩
theorem ms_make (n : Int) (w : World) : (Instr.makeMap 166 (some (.int .i64 n))).run Tryz.prog w = .ok (.map (some w.heap.size)) (w.alloc (.map #[] 0)) := by
  have hu : (underlying 166).run Tryz.prog w = .ok (.map 9 3) w := by kernel_rfl
  have h := run_makeMap (P := Tryz.prog) 166 w
  have hi : (asInt (.int .i64 n)).run Tryz.prog w = .ok n w := by kernel_rfl
  unfold Instr.makeMap at h ⊢
  simp [hu, hi] at h ⊢
theorem ms_made (w : World) : MapStr (w.alloc (.map #[] 0)) w.heap.size (fun _ => none) := ⟨#[], 0, (MapKept.heap_alloc w _).1, by simp, by simp⟩
theorem MapStr.kept {w w' : World} {g : Nat} {f : ByteArray → Option Int} (h : MapStr w g f) (hk : w'.heap[g]? = w.heap[g]?) : MapStr w' g f := by
  obtain ⟨es, clock, hb, r⟩ := h
  exact ⟨es, clock, hk.trans hb, r⟩
theorem MapStr.lt {w : World} {g : Nat} {f : ByteArray → Option Int} (h : MapStr w g f) : g < w.heap.size := by
  obtain ⟨es, clock, hb, r⟩ := h
  exact (Array.getElem?_eq_some_iff.1 hb).1
theorem MapStr.new {w w' : World} {g : Nat} {f : ByteArray → Option Int} (h : MapStr w g f) (hb : Below w.heap.size w w') : MapStr w' g f := h.kept (hb.block g h.lt)
theorem MapStr.setCell {w : World} {g : Nat} {f : ByteArray → Option Int} (h : MapStr w g f) {a : Addr} (ha : g ≠ a.block) (u : Value) : MapStr (w.setCell a u) g f := by
  obtain ⟨es, clock, hb, r⟩ := h
  exact ⟨es, clock, by rw [RowKit.Below.heap_setCell _ _ _ _ ha]; exact hb, r⟩
theorem MapStr.ext {w : World} {g : Nat} {f f' : ByteArray → Option Int} (h : MapStr w g f) (he : ∀ s, f s = f' s) : MapStr w g f' := by
  obtain rfl : f = f' := funext he
  exact h
end Go.Proofs.YtkhclhnejnpkeaaGreat
