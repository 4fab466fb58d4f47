/- Lemmas. -/
import Derived.Test.YtlpbnkideaojeaaGreatDoorQRpG1
import Derived.Deep.AppendLies
import Derived.Lib.SmallJoins
import Derived.WalkLawsBesides
import Derived.Lib.BufferRead
import Derived.RangeFuncBox
import Derived.Shelf.Small.Strs
import Derived.Shelf.Strconv.Clone
import Derived.Shelf.LaysC
namespace Go.Proofs.YtlpbnkideaojeaaGreatDoor
open Go.RowKit
set_option maxRecDepth 100000
set_option linter.unusedVariables false
set_option linter.unusedSimpArgs false
theorem hide {p : Prop} (h : p) : Hid p := h
def Reads (w : World) (v : Value) (n size : Nat) (xs : List Value) : Prop :=
 xs.length = n * size ∧ ∃ ad cap, v = .slice ad n cap ∧ n ≤ cap ∧ cap ≤ maxLen ∧
  (0 < n → ∃ b o, ad = some ⟨b, o, none⟩ ∧ b < w.heap.size ∧ ∀ j u, xs[j]? = some u → w.cell? ⟨b, o + j, none⟩ = some u)
structure Turn (lo hi : Nat) (w w' : World) : Prop where
 os : w'.os = w.os
 tape : w'.tape = w.tape
 output : w'.output = w.output
 size : w.heap.size ≤ w'.heap.size
 block : ∀ k, k < w.heap.size → (k < lo ∨ hi ≤ k) → w'.heap[k]? = w.heap[k]?
theorem Turn.refl (lo hi : Nat) (w : World) : Turn lo hi w w := ⟨rfl, rfl, rfl, Nat.le_refl _, fun _ _ _ => rfl⟩
theorem Turn.trans {lo hi : Nat} {a b c : World} (h : Turn lo hi a b) (k : Turn lo hi b c) : Turn lo hi a c :=
 ⟨k.os.trans h.os, k.tape.trans h.tape, k.output.trans h.output, Nat.le_trans h.size k.size, fun i hi h' => (k.block i (Nat.lt_of_lt_of_le hi h.size) h').trans (h.block i hi h')⟩
theorem Turn.wide {lo hi lo' hi' : Nat} {a b : World} (h : Turn lo hi a b) (h1 : lo' ≤ lo) (h2 : hi ≤ hi') : Turn lo' hi' a b :=
 ⟨h.os, h.tape, h.output, h.size, fun k hk h' => h.block k hk (by omega)⟩
theorem Turn.cell {lo hi : Nat} {a b : World} (h : Turn lo hi a b) (p o : Nat) (h1 : p < a.heap.size) (h2 : p < lo ∨ hi ≤ p) : b.cell? ⟨p, o, none⟩ = a.cell? ⟨p, o, none⟩ := World.cell?_of_block (h.block p h1 h2)
theorem Turn.frozen {lo hi : Nat} {a b : World} (h : Turn lo hi a b) (p o : Nat) (h1 : p < a.heap.size) (h2 : p < lo ∨ hi ≤ p) : b.frozen? ⟨p, o, none⟩ = a.frozen? ⟨p, o, none⟩ := World.frozen?_of_block (h.block p h1 h2)
theorem Turn.below {lo hi B : Nat} {a b : World} (h : Turn lo hi a b) (h1 : B ≤ lo) (h2 : B ≤ a.heap.size) : Below B a b := ⟨h.os, h.tape, h.output, h.size, fun k hk => h.block k (by omega) (by omega)⟩
theorem iL {a b : World} (h : Below a.heap.size a b) (lo hi : Nat) : Turn lo hi a b := ⟨h.os, h.tape, h.output, h.size, fun k hk _ => h.block k hk⟩
theorem Turn.alloc {lo hi : Nat} {a b : World} (h : Turn lo hi a b) (o : Obj) : Turn lo hi a (b.alloc o) :=
 ⟨h.os, h.tape, h.output, by simp; have := h.size; omega, fun k hk h' => by rw [((Below.refl b.heap.size b).alloc (Nat.le_refl _) o).block k (by have := h.size; omega)]; exact h.block k hk h'⟩
theorem Turn.setCell {lo hi : Nat} {a b : World} (h : Turn lo hi a b) {p : Addr} (v : Value) (h1 : (lo ≤ p.block ∧ p.block < hi) ∨ a.heap.size ≤ p.block) : Turn lo hi a (b.setCell p v) :=
 ⟨h.os, h.tape, h.output, by simp; exact h.size, fun k hk h' => by rw [Below.heap_setCell b p v k (by omega)]; exact h.block k hk h'⟩
theorem Turn.drewN {lo hi : Nat} {a b : World} (h : Turn lo hi a b) (n : Nat) : Turn lo hi a (b.drewN n) := ⟨h.os, h.tape, h.output, h.size, h.block⟩
theorem Turn.drew {lo hi : Nat} {a b : World} (h : Turn lo hi a b) : Turn lo hi a b.drew := ⟨h.os, h.tape, h.output, h.size, h.block⟩
theorem GJ (w : World) (row : Option Nat) : w.grownBy w row := ⟨rfl, rfl, rfl, Nat.le_refl _, fun _ _ _ => rfl⟩
theorem DF {a b c : World} {row : Option Nat} (h : a.grownBy b row) (k : b.grownBy c row) : a.grownBy c row :=
 ⟨k.os.trans h.os, k.tape.trans h.tape, k.output.trans h.output, Nat.le_trans h.size k.size, fun i hi hr => (k.block i (Nat.lt_of_lt_of_le hi h.size) hr).trans (h.block i hi hr)⟩
theorem yB {a b : World} {row : Option Nat} (h : a.grownBy b row) (p : Addr) (v : Value) (hp : row = some p.block) : a.grownBy (b.setCell p v) row :=
 ⟨h.os, h.tape, h.output, by simp; exact h.size, fun k hk hr => by rw [Below.heap_setCell b p v k (fun e => hr (by rw [hp, e]))]; exact h.block k hk hr⟩
theorem DI {a b : World} (h : Below a.heap.size a b) (row : Option Nat) : a.grownBy b row := ⟨h.os, h.tape, h.output, h.size, fun k hk _ => h.block k hk⟩
theorem Reads.kept {w w' : World} {v : Value} {n size : Nat} {xs : List Value} (h : Reads w v n size xs) (hs : w.heap.size ≤ w'.heap.size) (hk : ∀ k, v.ownBlock = some k → k < w.heap.size → w'.heap[k]? = w.heap[k]?) : Reads w' v n size xs := by
 obtain ⟨hl, ad, cap, rfl, h1, h2, h3⟩ := h
 refine ⟨hl, ad, cap, rfl, h1, h2, fun hn => ?_⟩
 obtain ⟨b, o, rfl, hb, hc⟩ := h3 hn
 exact ⟨b, o, rfl, by omega, fun j u hu => by rw [World.cell?_of_block (w := w) (hk b rfl hb)]; exact hc j u hu⟩
theorem Reads.new {w w' : World} {v : Value} {n size : Nat} {xs : List Value} (h : Reads w v n size xs) (hb : Below w.heap.size w w') : Reads w' v n size xs := h.kept hb.size fun k _ hk => hb.block k hk
theorem Reads.turn {lo hi : Nat} {w w' : World} {v : Value} {n size : Nat} {xs : List Value} (h : Reads w v n size xs) (ht : Turn lo hi w w') (hk : ∀ k, v.ownBlock = some k → k < lo ∨ hi ≤ k) : Reads w' v n size xs :=
 h.kept ht.size fun k e hk' => ht.block k hk' (hk k e)
theorem Reads.alloc {w : World} {v : Value} {n size : Nat} {xs : List Value} (h : Reads w v n size xs) (o : Obj) : Reads (w.alloc o) v n size xs := h.kept (by simp) fun k _ hk => ((Below.refl w.heap.size w).alloc (Nat.le_refl _) o).block k hk
theorem eP {w : World} {base : Nat} {e : TypeId} {size : Nat} {v : Value} {n : Nat} {xs : List Value} (h : w.ownsRow base e size v n xs) : Reads w v n size xs := by
 refine ⟨h.1, ?_⟩
 rcases h.2 with ⟨rfl, rfl⟩ | ⟨g, cap, cur, rfl, hb, hg, h1, h2, h3, h4⟩
 ·exact ⟨none, 0, rfl, Nat.le_refl _, Nat.zero_le _, fun h => absurd h (Nat.lt_irrefl _)⟩
 ·refine ⟨some ⟨g, 0, none⟩, cap, rfl, h1, h2, fun hn => ⟨g, 0, rfl, (Array.getElem?_eq_some_iff.1 hg).1, fun j u hu => ?_⟩⟩
  rw [Nat.zero_add, cell_of_row w g j cur e (0, 0) hg]
  rw [← h4, List.getElem?_take] at hu
  split at hu
  ·simpa using hu
  ·cases hu
theorem gK {w w' : World} {base : Nat} {e : TypeId} {size : Nat} {v : Value} {n : Nat} {xs : List Value} (h : w.ownsRow base e size v n xs) (hk : ∀ k, v.ownBlock = some k → k < w.heap.size → w'.heap[k]? = w.heap[k]?) : w'.ownsRow base e size v n xs := by
 refine ⟨h.1, ?_⟩
 rcases h.2 with hn | ⟨g, cap, cur, rfl, hb, hgg, rest⟩
 ·exact .inl hn
 ·refine .inr ⟨g, cap, cur, rfl, hb, ?_, rest⟩
  rw [hk g rfl (Array.getElem?_eq_some_iff.1 hgg).1]
  exact hgg
theorem aX {w w' : World} {base : Nat} {e : TypeId} {size : Nat} {v : Value} {n : Nat} {xs : List Value} (h : w.ownsRow base e size v n xs) (hb : Below w.heap.size w w') : w'.ownsRow base e size v n xs := gK h fun k _ hk => hb.block k hk
theorem Nc {lo hi : Nat} {w w' : World} {base : Nat} {e : TypeId} {size : Nat} {v : Value} {n : Nat} {xs : List Value} (h : w.ownsRow base e size v n xs) (ht : Turn lo hi w w') (hk : ∀ k, v.ownBlock = some k → k < lo ∨ hi ≤ k) : w'.ownsRow base e size v n xs :=
 gK h fun k e hk' => ht.block k hk' (hk k e)
theorem eG {w : World} {base base' : Nat} {e : TypeId} {size : Nat} {v : Value} {n : Nat} {xs : List Value} (h : w.ownsRow base e size v n xs) (hb : ∀ k, v.ownBlock = some k → base' ≤ k) : w.ownsRow base' e size v n xs := by
 refine ⟨h.1, ?_⟩
 rcases h.2 with hn | ⟨g, cap, cur, rfl, _, rest⟩
 ·exact .inl hn
 ·exact .inr ⟨g, cap, cur, rfl, hb g rfl, rest⟩
theorem iq {w : World} {base : Nat} {e : TypeId} {size : Nat} {v : Value} {n : Nat} {xs : List Value} (B : Nat) (h : w.ownsRow base e size v n xs) (hv : ∀ k, v.ownBlock = some k → B ≤ k) (p : Addr) (u : Value) (hp : p.block < B) : (w.setCell p u).ownsRow base e size v n xs :=
 gK h fun k hk _ => Below.heap_setCell w p u k (by have := hv k hk; omega)
theorem fD {w : World} {base : Nat} {e : TypeId} {size : Nat} {v : Value} {n : Nat} {xs : List Value} (h : w.ownsRow base e size v n xs) (p : Addr) (u : Value) (hp : v.ownBlock ≠ some p.block) : (w.setCell p u).ownsRow base e size v n xs :=
 gK h fun k hk _ => Below.heap_setCell w p u k (fun e => hp (by rw [hk, e]))
theorem mI {w : World} {base : Nat} {e : TypeId} {size : Nat} {v : Value} {n : Nat} {xs : List Value} (h : w.ownsRow base e size v n xs) {g : Nat} (hg : v.ownBlock = some g) (j : Nat) (u : Value) : (w.setCell ⟨g, j, none⟩ u).ownsRow base e size v n (xs.set j u) := by
 refine ⟨by simp [h.1], ?_⟩
 rcases h.2 with ⟨rfl, _⟩ | ⟨g', cap, cur, rfl, hb, hgg, h1, h2, h3, h4⟩
 ·simp [Value.ownBlock] at hg
 ·simp [Value.ownBlock] at hg
  subst hg
  refine .inr ⟨g', cap, cur.setIfInBounds j u, rfl, hb, ?_, h1, h2, by simp [h3], ?_⟩
  ·simp [World.setCell, Array.getElem?_modify, hgg]
  ·rw [← h4]; simp [List.take_set]
theorem qx {w : World} {base : Nat} {e : TypeId} {size : Nat} {v : Value} {n : Nat} {xs : List Value} (h : w.ownsRow base e size v n xs) (hn : 0 < n) : ∃ g cap, v = .slice (some ⟨g, 0, none⟩) n cap ∧ v.ownBlock = some g ∧ base ≤ g ∧ g < w.heap.size ∧ n ≤ cap ∧ cap ≤ maxLen ∧
  (∀ j u, xs[j]? = some u → w.cell? ⟨g, j, none⟩ = some u) ∧ ∀ j, w.frozen? ⟨g, j, none⟩ = false := by
 rcases h.2 with ⟨rfl, rfl⟩ | ⟨g, cap, cur, rfl, hb, hgg, h1, h2, h3, h4⟩
 ·exact absurd hn (Nat.lt_irrefl _)
 ·refine ⟨g, cap, rfl, rfl, hb, (Array.getElem?_eq_some_iff.1 hgg).1, h1, h2, fun j u hu => ?_, fun j => by simp [World.frozen?, hgg]⟩
  rw [cell_of_row w g j cur e (0, 0) hgg]
  rw [← h4, List.getElem?_take] at hu
  split at hu
  ·simpa using hu
  ·cases hu
theorem bW {w : World} {base : Nat} {e : TypeId} {size : Nat} {v : Value} {n : Nat} {xs : List Value} (h : w.ownsRow base e size v n xs) : ∃ ad cap, v = .slice ad n cap ∧ n ≤ cap ∧ cap ≤ maxLen := by
 obtain ⟨_, ad, cap, h1, h2, h3, _⟩ := eP h
 exact ⟨ad, cap, h1, h2, h3⟩
theorem iV {w : World} {base : Nat} {e : TypeId} {size : Nat} {v : Value} {n : Nat} {xs : List Value} (h : w.ownsRow base e size v n xs) : ∀ k, v.ownBlock = some k → base ≤ k ∧ k < w.heap.size := h.lt
theorem flat_get {α : Type} (f : α → List Value) (s : Nat) (hf : ∀ x, (f x).length = s) (L : List α) (i : Nat) (hi : i < L.length) (r : Nat) (hr : r < s) : (L.flatMap f)[i * s + r]? = (f L[i])[r]? := by
 induction L generalizing i with
 | nil => exact absurd hi (Nat.not_lt_zero _)
 | cons x L ih =>
  cases i with
  | zero => simp only [List.flatMap_cons, Nat.zero_mul, Nat.zero_add]; rw [List.getElem?_append_left (by rw [hf]; omega)]; rfl
  | succ i =>
   simp only [List.flatMap_cons]
   rw [List.getElem?_append_right (by rw [hf, Nat.succ_mul]; omega), hf, show (i + 1) * s + r - s = i * s + r by rw [Nat.succ_mul]; omega]
   simpa using ih i (by simpa using hi)
theorem DC {α : Type} (f : α → List Value) (s : Nat) (hf : ∀ x, (f x).length = s) (L : List α) : (L.flatMap f).length = L.length * s := by
 induction L with
 | nil => simp
 | cons x L ih => simp only [List.flatMap_cons, List.length_append, List.length_cons, hf, ih, Nat.succ_mul]; omega
theorem Gx {α : Type} (f : α → List Value) (s : Nat) (hf : ∀ x, (f x).length = s) (L : List α) (i : Nat) (hi : i < L.length) (r : Nat) (hr : r < s) (u : Value) (y : α) (hy : f y = (f L[i]).set r u) : (L.flatMap f).set (i * s + r) u = (L.set i y).flatMap f := by
 induction L generalizing i with
 | nil => exact absurd hi (Nat.not_lt_zero _)
 | cons x L ih =>
  cases i with
  | zero =>
   simp only [List.flatMap_cons, Nat.zero_mul, Nat.zero_add, List.set_cons_zero]
   rw [List.set_append_left _ _ (by rw [hf]; omega), hy]; rfl
  | succ i =>
   simp only [List.flatMap_cons, List.set_cons_succ]
   rw [List.set_append_right _ _ (by rw [hf, Nat.succ_mul]; omega), hf, show (i + 1) * s + r - s = i * s + r by rw [Nat.succ_mul]; omega]
   rw [ih i (by simpa using hi) (by simpa using hy)]
theorem int_eq {a b : Int} (h : a = b) : Value.int .i64 a = .int .i64 b := by rw [h]
theorem uE {xs ys : List Value} {m : Nat} {a : Value} (m' : Nat) (h : ∀ j, j < m → xs[j]? = ys[j]?) (hy : ys[m]? = some a) (hm : m < xs.length) (hm' : m' = m + 1) : ∀ j, j < m' → (xs.set m a)[j]? = ys[j]? := by
 intro j hj
 subst hm'
 rw [List.getElem?_set]
 split
 ·rename_i h'; subst h'; simp [hy, hm]
 ·exact h j (by omega)
theorem GH {xs ys : List Value} {m : Nat} (hx : xs.length = m) (hy : ys.length = m) (h : ∀ j, j < m → xs[j]? = ys[j]?) : xs = ys := List.ext_getElem? fun j => by
 by_cases hj : j < m
 ·exact h j hj
 ·rw [List.getElem?_eq_none (by omega), List.getElem?_eq_none (by omega)]
structure Later (V : World) where
 w : World
 b : Below V.heap.size V w
theorem gW {P : Program} {f : FuncId} {args : Array Value} {V : World} {x : Later V} {v : Value} (h : Calls P f args x.w fun e w' => e = .returned v ∧ Below x.w.heap.size x.w w') :
  Calls P f args x.w fun e w'' => e = .returned v ∧ ∃ y : Later V, w'' = y.w := h.mono fun _ w' h => ⟨h.1, ⟨w', ah x.b h.2⟩, rfl⟩
theorem gD {P : Program} {f : FuncId} {args : Array Value} {V : World} {x : Later V} {v : Value} (h : Calls P f args x.w fun e w' => e = .returned v ∧ w' = x.w) :
  Calls P f args x.w fun e w'' => e = .returned v ∧ ∃ y : Later V, w'' = y.w := h.mono fun _ w' h => ⟨h.1, x, h.2⟩
theorem eH {P : Program} {id : Nat} {Q : Exit → Act → World → Prop} {a : Act} {w : World} {l : List Oper} (hm : P.follows .mixedOrders = true) (hB : Region.lexB .any l.toArray = true)
  (h : wpQuiet P l.toArray (fun w' => ∃ x : Later w, w' = x.w) (fun a' => ∀ w', (∃ x : Later w, w' = x.w) → Q .normal a' w') l a) : (Code.region id l.toArray true).wp P Q a w :=
 wp_region_quiet (C := fun w' => ∃ x : Later w, w' = x.w) hm hB ⟨⟨w.drewN 1, ay 1 (Below.refl _ _)⟩, rfl⟩ (by simpa using h)
def fQ (s e : Int) : Int × Bool :=
 if s = 0 then (if e = 1 then (1, true) else (s, false))
 else if s = 1 then (if e = 2 then (2, true) else if e = 3 then (3, true) else if e = 6 ∨ e = 7 then (s, true) else if e = 4 ∨ e = 5 then (4, true) else (s, false))
 else if s = 2 then (if e = 3 ∨ e = 4 ∨ e = 5 then (4, true) else if e = 7 then (s, true) else (s, false))
 else if s = 3 then (if e = 2 ∨ e = 4 ∨ e = 5 then (4, true) else if e = 6 then (s, true) else (s, false))
 else if s = 4 then (if e = 4 ∨ e = 5 then (s, true) else (s, false))
 else (s, false)
def jM (s : Int) : Bool := decide (s = 1 ∨ s = 2)
theorem Uh {s e n : Int} (h : fQ s e = (n, false)) : n = s := by
 unfold fQ at h
 repeat' split at h
 all_goals simp at h
 all_goals omega
theorem VN {e n : Int} {b : Bool} (h : fQ 4 e = (n, b)) : n = 4 := by
 unfold fQ at h
 simp at h
 split at h <;> simp at h <;> omega
theorem Ui {s e n : Int} (h : fQ s e = (n, true)) : s ≤ n ∧ 0 ≤ s ∧ n ≤ 4 ∧ 1 ≤ n := by
 unfold fQ at h
 repeat' split at h
 all_goals simp at h
 all_goals omega
theorem DR (s : Int) : s = 0 ∨ s = 1 ∨ s = 2 ∨ s = 3 ∨ s = 4 ∨ (s ≠ 0 ∧ s ≠ 1 ∧ s ≠ 2 ∧ s ≠ 3 ∧ s ≠ 4) := by omega
theorem wK (e : Int) : e = 1 ∨ e = 2 ∨ e = 3 ∨ e = 4 ∨ e = 5 ∨ e = 6 ∨ e = 7 ∨ (e ≠ 1 ∧ e ≠ 2 ∧ e ≠ 3 ∧ e ≠ 4 ∧ e ≠ 5 ∧ e ≠ 6 ∧ e ≠ 7) := by omega
theorem G5 {s e : Int} (h : s ≠ 0 ∧ s ≠ 1 ∧ s ≠ 2 ∧ s ≠ 3 ∧ s ≠ 4) : fQ s e = (s, false) := by
 unfold fQ
 simp [h.1, h.2.1, h.2.2.1, h.2.2.2.1, h.2.2.2.2]
theorem yD {s e : Int} (h : e ≠ 1 ∧ e ≠ 2 ∧ e ≠ 3 ∧ e ≠ 4 ∧ e ≠ 5 ∧ e ≠ 6 ∧ e ≠ 7) : fQ s e = (s, false) := by
 unfold fQ
 simp [h.1, h.2.1, h.2.2.1, h.2.2.2.1, h.2.2.2.2.1, h.2.2.2.2.2.1, h.2.2.2.2.2.2]
def okB (r : Int) (b : ByteArray) (k : Bool) : Bool := decide (1 ≤ r ∧ r ≤ 2000 ∧ (b.size : Int) ≤ r) && (!k || b.toList.isEmpty)
theorem Ap {r : Int} {b : ByteArray} {k : Bool} (h : ¬ (1 ≤ r ∧ r ≤ 2000 ∧ (b.size : Int) ≤ r)) : okB r b k = false := by simp [okB, h]
theorem Dy {r : Int} {b : ByteArray} {k : Bool} (h : 1 ≤ r ∧ r ≤ 2000 ∧ (b.size : Int) ≤ r) : okB r b k = (!k || b.toList.isEmpty) := by simp [okB, h]
theorem sz (r : Int) (b : ByteArray) (e k : Bool) (left : Int) (w : World) (hb : b.size ≤ maxLen) (h0 : 0 ≤ left) (h1 : left ≤ 1048576) :
  Calls Tryz.prog 109 #[.agg #[.int .i64 r, .string b, .bool e, .bool k], .int .i64 left] w fun x w' => x = .returned (.int .i64 (if left - b.size < 0 then -1 else left - b.size)) ∧ Below w.heap.size w w' := by
 unfold maxLen at hb
 by_cases h : left - b.size < 0
 ·go_enter Tryz.func109, Tryz.ntmps109
  go_wp2
  go_ret
  exact ⟨by simp [h], (by repeat' (first | (with_reducible exact Below.refl _ _) | (with_reducible refine Below.drew ?_) | (with_reducible refine ay _ ?_) | (with_reducible refine aA ?_ _) | (refine ah ?_ (by with_reducible assumption)) | (with_reducible refine Below.setCell ?_ ?_ _) | go_size))⟩
 ·go_enter Tryz.func109, Tryz.ntmps109
  go_wp2
  go_ret
  exact ⟨by simp [h], (by repeat' (first | (with_reducible exact Below.refl _ _) | (with_reducible refine Below.drew ?_) | (with_reducible refine ay _ ?_) | (with_reducible refine aA ?_ _) | (refine ah ?_ (by with_reducible assumption)) | (with_reducible refine Below.setCell ?_ ?_ _) | go_size))⟩
theorem toP (r : Int) (b : ByteArray) (e k : Bool) (w : World) :
  Calls Tryz.prog 113 #[.agg #[.int .i64 r, .string b, .bool e, .bool k]] w fun x w' => x = .returned (.agg #[.int .i64 r, .string b, .bool e, .bool k]) ∧ Below w.heap.size w w' := by
 go_enter Tryz.func113, Tryz.ntmps113
 go_wp2
 go_returns
 exact ⟨rfl, (by repeat' (first | (with_reducible exact Below.refl _ _) | (with_reducible refine Below.drew ?_) | (with_reducible refine ay _ ?_) | (with_reducible refine aA ?_ _) | (refine ah ?_ (by with_reducible assumption)) | (with_reducible refine Below.setCell ?_ ?_ _) | go_size))⟩
theorem Nf (r : Int) (b : ByteArray) (e k : Bool) (w : World) :
  Calls Tryz.prog 136 #[.agg #[.int .i64 r, .string b, .bool e, .bool k], .agg #[.int .i64 r, .string b, .bool e, .bool k]] w fun x w' => x = .returned (.bool true) ∧ Below w.heap.size w w' := by
 go_enter Tryz.func136, Tryz.ntmps136
 go_wp2
 go_ret
 exact ⟨rfl, (by repeat' (first | (with_reducible exact Below.refl _ _) | (with_reducible refine Below.drew ?_) | (with_reducible refine ay _ ?_) | (with_reducible refine aA ?_ _) | (refine ah ?_ (by with_reducible assumption)) | (with_reducible refine Below.setCell ?_ ?_ _) | go_size))⟩
theorem DT (x lo hi : Int) (w : World) :
  Calls Tryz.prog 44 #[.int .i64 x, .int .i64 lo, .int .i64 hi] w fun e w' => e = .returned (.bool (decide (lo ≤ x ∧ x ≤ hi))) ∧ w' = w := by
 by_cases h1 : lo ≤ x
 ·by_cases h2 : x ≤ hi
  ·go_enter Tryz.func44, Tryz.ntmps44
   go_wp2
   go_ret
   exact ⟨by simp [h1, h2], rfl⟩
  ·have hd : decide (lo ≤ x ∧ x ≤ hi) = false := by simp [h2]
   rw [hd]
   go_enter Tryz.func44, Tryz.ntmps44
   go_wp2
   go_ret
   exact ⟨by simp [h1, h2], rfl⟩
 ·have hd : decide (lo ≤ x ∧ x ≤ hi) = false := by simp [h1]
  rw [hd]
  go_enter Tryz.func44, Tryz.ntmps44
  go_wp2
  go_ret
  exact ⟨rfl, rfl⟩
theorem VO (r : Int) (b : ByteArray) (e k : Bool) (w : World) (hb : b.size ≤ maxLen) :
  Calls Tryz.prog 79 #[.agg #[.int .i64 r, .string b, .bool e, .bool k]] w fun x w' => x = .returned (.bool (okB r b k)) ∧ Below w.heap.size w w' := by
 unfold maxLen at hb
 by_cases h1 : 1 ≤ r ∧ r ≤ 2000
 ·have hd : decide (1 ≤ r ∧ r ≤ 2000) = true := by simp [h1]
  by_cases h2 : (b.size : Int) ≤ r
  ·rw [Dy ⟨h1.1, h1.2, h2⟩]
   cases k
   ·go_enter Tryz.func79, Tryz.ntmps79
    go_wp2_with (go_at_call 44; refine (DT _ _ _ _).mono ?_; rintro x w' ⟨rfl, rfl⟩)
    go_ret
    exact ⟨by simp, (by repeat' (first | (with_reducible exact Below.refl _ _) | (with_reducible refine Below.drew ?_) | (with_reducible refine ay _ ?_) | (with_reducible refine aA ?_ _) | (refine ah ?_ (by with_reducible assumption)) | (with_reducible refine Below.setCell ?_ ?_ _) | go_size))⟩
   ·go_enter Tryz.func79, Tryz.ntmps79
    go_wp2_with (go_at_call 44; refine (DT _ _ _ _).mono ?_; rintro x w' ⟨rfl, rfl⟩)
    go_ret
    exact ⟨by simp, (by repeat' (first | (with_reducible exact Below.refl _ _) | (with_reducible refine Below.drew ?_) | (with_reducible refine ay _ ?_) | (with_reducible refine aA ?_ _) | (refine ah ?_ (by with_reducible assumption)) | (with_reducible refine Below.setCell ?_ ?_ _) | go_size))⟩
  ·rw [Ap (fun h => h2 h.2.2)]
   go_enter Tryz.func79, Tryz.ntmps79
   go_wp2_with (go_at_call 44; refine (DT _ _ _ _).mono ?_; rintro x w' ⟨rfl, rfl⟩)
   go_ret
   exact ⟨rfl, (by repeat' (first | (with_reducible exact Below.refl _ _) | (with_reducible refine Below.drew ?_) | (with_reducible refine ay _ ?_) | (with_reducible refine aA ?_ _) | (refine ah ?_ (by with_reducible assumption)) | (with_reducible refine Below.setCell ?_ ?_ _) | go_size))⟩
 ·have hd : decide (1 ≤ r ∧ r ≤ 2000) = false := by simp [h1]
  rw [Ap (fun h => h1 ⟨h.1, h.2.1⟩)]
  go_enter Tryz.func79, Tryz.ntmps79
  go_wp2_with (go_at_call 44; refine (DT _ _ _ _).mono ?_; rintro x w' ⟨rfl, rfl⟩)
  go_ret
  exact ⟨rfl, (by repeat' (first | (with_reducible exact Below.refl _ _) | (with_reducible refine Below.drew ?_) | (with_reducible refine ay _ ?_) | (with_reducible refine aA ?_ _) | (refine ah ?_ (by with_reducible assumption)) | (with_reducible refine Below.setCell ?_ ?_ _) | go_size))⟩
theorem right (r : Int) (b : ByteArray) (e k : Bool) (w : World) (hb : b.size ≤ maxLen) :
  Calls Tryz.prog 134 #[.agg #[.int .i64 r, .string b, .bool e, .bool k]] w fun x w' => x = .returned (.bool (okB r b k)) ∧ Below w.heap.size w w' := by
 unfold maxLen at hb
 by_cases h1 : r < 1
 ·rw [Ap (fun h => by omega)]
  go_enter Tryz.func134, Tryz.ntmps134
  go_wp2
  go_ret
  exact ⟨rfl, (by repeat' (first | (with_reducible exact Below.refl _ _) | (with_reducible refine Below.drew ?_) | (with_reducible refine ay _ ?_) | (with_reducible refine aA ?_ _) | (refine ah ?_ (by with_reducible assumption)) | (with_reducible refine Below.setCell ?_ ?_ _) | go_size))⟩
 ·by_cases h2 : 2000 < r
  ·rw [Ap (fun h => by omega)]
   go_enter Tryz.func134, Tryz.ntmps134
   go_wp2
   go_ret
   exact ⟨rfl, (by repeat' (first | (with_reducible exact Below.refl _ _) | (with_reducible refine Below.drew ?_) | (with_reducible refine ay _ ?_) | (with_reducible refine aA ?_ _) | (refine ah ?_ (by with_reducible assumption)) | (with_reducible refine Below.setCell ?_ ?_ _) | go_size))⟩
  ·by_cases h3 : r < (b.size : Int)
   ·rw [Ap (fun h => by omega)]
    go_enter Tryz.func134, Tryz.ntmps134
    go_wp2
    go_ret
    exact ⟨rfl, (by repeat' (first | (with_reducible exact Below.refl _ _) | (with_reducible refine Below.drew ?_) | (with_reducible refine ay _ ?_) | (with_reducible refine aA ?_ _) | (refine ah ?_ (by with_reducible assumption)) | (with_reducible refine Below.setCell ?_ ?_ _) | go_size))⟩
   ·rw [Dy (by omega)]
    cases k
    ·go_enter Tryz.func134, Tryz.ntmps134
     go_wp2
     go_ret
     exact ⟨by simp, (by repeat' (first | (with_reducible exact Below.refl _ _) | (with_reducible refine Below.drew ?_) | (with_reducible refine ay _ ?_) | (with_reducible refine aA ?_ _) | (refine ah ?_ (by with_reducible assumption)) | (with_reducible refine Below.setCell ?_ ?_ _) | go_size))⟩
    ·go_enter Tryz.func134, Tryz.ntmps134
     go_wp2
     go_ret
     exact ⟨by simp, (by repeat' (first | (with_reducible exact Below.refl _ _) | (with_reducible refine Below.drew ?_) | (with_reducible refine ay _ ?_) | (with_reducible refine aA ?_ _) | (refine ah ?_ (by with_reducible assumption)) | (with_reducible refine Below.setCell ?_ ?_ _) | go_size))⟩
def aQ (x lo hi : Int) : Bool := decide (lo ≤ x ∧ x ≤ hi)
theorem jm {x lo hi : Int} (h : aQ x lo hi = true) : lo ≤ x ∧ x ≤ hi := of_decide_eq_true h
theorem Cv {x lo hi : Int} (h : lo ≤ x) (h' : x ≤ hi) : aQ x lo hi = true := decide_eq_true ⟨h, h'⟩
theorem rX {x lo hi : Int} (h : aQ x lo hi = false) : ¬ (lo ≤ x ∧ x ≤ hi) := of_decide_eq_false h
theorem iX (x lo hi : Int) (w : World) : Calls Tryz.prog 25 #[.int .i64 x, .int .i64 lo, .int .i64 hi] w fun e w' => e = .returned (.bool (aQ x lo hi)) ∧ w' = w := by
 by_cases h1 : lo ≤ x
 ·by_cases h2 : x ≤ hi
  ·have : aQ x lo hi = true := decide_eq_true ⟨h1, h2⟩
   rw [this]
   go_enter Tryz.func25, Tryz.ntmps25
   go_wp2_with fail
   go_ret
   simp
  ·have : aQ x lo hi = false := decide_eq_false (by omega)
   rw [this]
   go_enter Tryz.func25, Tryz.ntmps25
   go_wp2_with fail
   go_ret
   simp
 ·have : aQ x lo hi = false := decide_eq_false (by omega)
  rw [this]
  go_enter Tryz.func25, Tryz.ntmps25
  go_wp2_with fail
  go_ret
  simp
theorem jP (x lo hi : Int) (w : World) : Calls Tryz.prog 44 #[.int .i64 x, .int .i64 lo, .int .i64 hi] w fun e w' => e = .returned (.bool (aQ x lo hi)) ∧ w' = w := by
 by_cases h1 : lo ≤ x
 ·by_cases h2 : x ≤ hi
  ·have : aQ x lo hi = true := decide_eq_true ⟨h1, h2⟩
   rw [this]
   go_enter Tryz.func44, Tryz.ntmps44
   go_wp2_with fail
   go_ret
   simp
  ·have : aQ x lo hi = false := decide_eq_false (by omega)
   rw [this]
   go_enter Tryz.func44, Tryz.ntmps44
   go_wp2_with fail
   go_ret
   simp
 ·have : aQ x lo hi = false := decide_eq_false (by omega)
  rw [this]
  go_enter Tryz.func44, Tryz.ntmps44
  go_wp2_with fail
  go_ret
  simp
structure Moves (g : Nat) (w w' : World) : Prop where
 os : w'.os = w.os
 tape : w'.tape = w.tape
 output : w'.output = w.output
 size : w.heap.size ≤ w'.heap.size
 block : ∀ k, k < w.heap.size → k ≠ g → w'.heap[k]? = w.heap[k]?
theorem Moves.refl (g : Nat) (w : World) : Moves g w w := ⟨rfl, rfl, rfl, Nat.le_refl _, fun _ _ _ => rfl⟩
theorem Moves.trans {g : Nat} {a b c : World} (h : Moves g a b) (k : Moves g b c) : Moves g a c :=
 ⟨k.os.trans h.os, k.tape.trans h.tape, k.output.trans h.output, Nat.le_trans h.size k.size, fun i hi hg => (k.block i (Nat.lt_of_lt_of_le hi h.size) hg).trans (h.block i hi hg)⟩
theorem Moves.of_below {g : Nat} {a b : World} (h : Below a.heap.size a b) : Moves g a b := ⟨h.os, h.tape, h.output, h.size, fun k hk _ => h.block k hk⟩
theorem Moves.drewN {g : Nat} {a b : World} (n : Nat) (h : Moves g a b) : Moves g a (b.drewN n) := ⟨h.os, h.tape, h.output, h.size, h.block⟩
theorem Moves.drew {g : Nat} {a b : World} (h : Moves g a b) : Moves g a b.drew := ⟨h.os, h.tape, h.output, h.size, h.block⟩
theorem Moves.alloc {g : Nat} {a b : World} (h : Moves g a b) (o : Obj) : Moves g a (b.alloc o) := h.trans (Moves.of_below (Joins.below_alloc1 b o))
theorem Moves.set {g : Nat} {a b : World} (h : Moves g a b) (o : Nat) (v : Value) : Moves g a (b.setCell ⟨g, o, none⟩ v) :=
 h.trans ⟨rfl, rfl, rfl, by simp, fun k _ hg => Below.heap_setCell b ⟨g, o, none⟩ v k hg⟩
theorem Moves.below {g B : Nat} {a b : World} (h : Moves g a b) (h1 : B ≤ g) (h2 : B ≤ a.heap.size) : Below B a b := ⟨h.os, h.tape, h.output, h.size, fun k hk => h.block k (by omega) (by omega)⟩
theorem Moves.cell {g : Nat} {a b : World} (h : Moves g a b) (k o : Nat) (h1 : k < a.heap.size) (h2 : k ≠ g) : b.cell? ⟨k, o, none⟩ = a.cell? ⟨k, o, none⟩ := World.cell?_of_block (w := a) (h.block k h1 h2)
theorem Moves.frozen {g : Nat} {a b : World} (h : Moves g a b) (k o : Nat) (h1 : k < a.heap.size) (h2 : k ≠ g) : b.frozen? ⟨k, o, none⟩ = a.frozen? ⟨k, o, none⟩ := World.frozen?_of_block (w := a) (h.block k h1 h2)
def sj (w : World) (a : Option Addr) (len B : Nat) : Prop := ∀ j, j < len → ∃ (b o : Nat) (z : Int), a = some ⟨b, o, none⟩ ∧ b < B ∧ 0 ≤ z ∧ z ≤ 255 ∧ w.cell? ⟨b, o + j, none⟩ = some (.int .u8 z)
theorem sj.kept {w w' : World} {a : Option Addr} {len B : Nat} (h : sj w a len B) (hb : Below B w w') : sj w' a len B := fun j hj => by
 obtain ⟨b, o, z, h1, h2, h3, h4, h5⟩ := h j hj
 exact ⟨b, o, z, h1, h2, h3, h4, by rw [hb.cell (p := ⟨b, o + j, none⟩) h2]; exact h5⟩
def strOf (l : List Int) : ByteArray := ⟨(l.map fun z => UInt8.ofNat z.toNat).toArray⟩
theorem oP (l : List Int) : (strOf l).size = l.length := by simp [strOf, ByteArray.size]
theorem M7 {z : Int} (h0 : 0 ≤ z) (h1 : z ≤ 255) : ((UInt8.ofNat z.toNat).toNat : Int) = z := by simp [UInt8.toNat_ofNat']; omega
theorem iY {W : World} {base n : Nat} {v : Value} {l : List Int} (hown : W.ownsRow base 5 1 v n (l.map (Value.int .u8))) (hx : ∀ x ∈ l, 0 ≤ x ∧ x ≤ 255) :
  (convert 127 9 v).run Tryz.prog W = .ok (.string (strOf l)) W := by
 obtain ⟨h1, h2⟩ := hown
 rcases h2 with ⟨rfl, rfl⟩ | ⟨b, cap, cur, rfl, e2, e3, e4, e5, e6, e7⟩
 ·have : l = [] := by simpa using h1
  subst this
  simpa [strOf] using Lib.run_convert_nil_bytes (P := Tryz.prog) W 127 9 5 0 Tryz.underlying127 Tryz.underlying5 Tryz.underlying9
 ·have hn : (l.map fun z => UInt8.ofNat z.toNat).length = n := by simp at h1 ⊢; omega
  have := run_convert_bytes_back (P := Tryz.prog) W 127 9 5 ⟨b, 0, none⟩ cap (l.map fun z => UInt8.ofNat z.toNat) Tryz.underlying127 Tryz.underlying5 Tryz.underlying9 (fun j hjl => by
   have hj : j < l.length := by simpa using hjl
   have h6 : W.cell? ((⟨b, 0, none⟩ : Addr).add j) = cur[j]? := by by_cases hj0 : j = 0 <;> simp [Addr.add, World.cell?, e3, hj0]
   have h7 : cur.toList[j]? = some (Value.int .u8 l[j]) := by
    have h8 : (cur.toList.take n)[j]? = (l.map (Value.int .u8))[j]? := by rw [← e7]; simp
    rw [List.getElem?_take_of_lt (by simp at h1; omega)] at h8
    rw [h8]; simp [hj]
   rw [h6, ← Array.getElem?_toList, h7]
   have := hx l[j] (List.getElem_mem hj)
   rw [List.getElem_map, M7 this.1 this.2])
  rw [hn] at this
  exact this
theorem oQ (w : World) (e : TypeId) (v : Value) : (w.alloc (.cells #[v] e)).ownsRow w.heap.size e 1 (.slice (some ⟨w.heap.size, 0, none⟩) 1 1) 1 [v] :=
 ⟨by simp, .inr ⟨w.heap.size, 1, #[v], rfl, Nat.le_refl _, World.alloc_heap_new w _, Nat.le_refl _, by simp [maxLen], by simp, by simp⟩⟩
end Go.Proofs.YtlpbnkideaojeaaGreatDoor
namespace Go.Proofs.YtlpbnkideaojeaaGreatDoor
open Go.Shelf Go.RowKit
def VP : Go.Shelf.Ren := ⟨fun | 137 => 175 | 217 => 176 | 266 => 177 | n => n, fun | 3 => 3 | 9 => 9 | 5 => 5 | n => n, fun | n => n⟩
theorem VQ : Go.Proofs.Lays.n137 Tryz.prog VP := {
 mixed := by kernel_rfl
 f137 := Tryz.func175.trans (congrArg some (by kernel_rfl))
 f217 := Tryz.func176.trans (congrArg some (by kernel_rfl))
 f266 := Tryz.func177.trans (congrArg some (by kernel_rfl))
 t3 := Tryz.underlying3
 a3 := Tryz.isAgg3
 z3 := Tryz.sizeOf3
 v3 := Tryz.zeroValue3
 t9 := Tryz.underlying9
 a9 := Tryz.isAgg9
 z9 := Tryz.sizeOf9
 v9 := Tryz.zeroValue9
 t5 := Tryz.underlying5
 a5 := Tryz.isAgg5
 z5 := Tryz.sizeOf5
 v5 := Tryz.zeroValue5 }
theorem indexByte (s : ByteArray) (c : Int) (w : World) :
  Calls Tryz.prog 175 #[.string s, .int .u8 c] w fun e w' => e = .returned (.int .i64 (Lib.indexByte s.data.toList c.toNat.toUInt8)) ∧ w' = w := Any.strings_IndexByte VQ s c w
def VT : Go.Shelf.Ren := ⟨fun | 316 => 172 | n => n, fun | 0 => 0 | 3 => 3 | 4 => 4 | 9 => 9 | 37 => 127 | 127 => 241 | 5 => 5 | n => n, fun | n => n⟩
theorem VU : Go.Proofs.LaysM.n316 Tryz.prog VT := {
 mixed := by kernel_rfl
 f316 := Tryz.func172.trans (congrArg some (by kernel_rfl))
 t0 := Tryz.underlying0
 a0 := Tryz.isAgg0
 z0 := Tryz.sizeOf0
 v0 := Tryz.zeroValue0
 t3 := Tryz.underlying3
 a3 := Tryz.isAgg3
 z3 := Tryz.sizeOf3
 v3 := Tryz.zeroValue3
 t4 := Tryz.underlying4
 a4 := Tryz.isAgg4
 z4 := Tryz.sizeOf4
 v4 := Tryz.zeroValue4
 t9 := Tryz.underlying9
 a9 := Tryz.isAgg9
 z9 := Tryz.sizeOf9
 v9 := Tryz.zeroValue9
 t37 := Tryz.underlying127
 a37 := Tryz.isAgg127
 z37 := Tryz.sizeOf127
 v37 := Tryz.zeroValue127
 t127 := Tryz.underlying241
 a127 := Tryz.isAgg241
 z127 := Tryz.sizeOf241
 v127 := Tryz.zeroValue241
 t5 := Tryz.underlying5
 a5 := Tryz.isAgg5
 z5 := Tryz.sizeOf5
 v5 := Tryz.zeroValue5
 i0 := by kernel_rfl
 i3 := by kernel_rfl
 i4 := by kernel_rfl
 i9 := by kernel_rfl
 i37 := by kernel_rfl
 i127 := by kernel_rfl
 i5 := by kernel_rfl }
theorem VW (s : ByteArray) (w : World) (hlim : s.size ≤ 281474976710656) :
  Calls Tryz.prog 172 #[.string s] w fun e w' => e = .returned (.string s) ∧ Below w.heap.size w w' := Any.stringslite_Clone VU s w hlim
theorem clone (s : ByteArray) (w : World) (hlim : s.size ≤ 281474976710656) :
  Calls Tryz.prog 161 #[.string s] w fun e w' => e = .returned (.string s) ∧ Below w.heap.size w w' := by
 go_enter Tryz.func161, Tryz.ntmps161
 go_wp2_with fail
 refine (VW s _ hlim).mono ?_; rintro x w1 ⟨rfl, hb1⟩
 go_wp2_with fail
 go_ret
 exact ⟨rfl, hb1⟩
end Go.Proofs.YtlpbnkideaojeaaGreatDoor
namespace Go.Proofs.YtlpbnkideaojeaaGreatDoor
open Go.RowKit
set_option maxRecDepth 100000
set_option linter.unusedSimpArgs false
set_option linter.unusedVariables false
section
variable {P : Program} {ops : Array Oper} {Q : Exit → Act → World → Prop} {md : Region.Mode}
def waitsFor (md : Region.Mode) (ops : Array Oper) (i : Nat) : List Nat :=
 match ops[i]? with
 | none => []
 | some o => (o.after.toList.filter (Region.binds md)).map (·.on)
theorem Ng {i j : Nat} {l : Array Bool} (h : i ∈ Region.ready md ops l) (hj : (waitsFor md ops i).contains j = true) : l.getD j false = true := by
 obtain ⟨_, o, ho, hall⟩ := mem_ready.1 h
 simp only [waitsFor, ho, List.contains_iff_mem, List.mem_map, List.mem_filter, Array.mem_toList_iff] at hj
 obtain ⟨e, ⟨he, hb⟩, rfl⟩ := hj
 exact hall e he hb
theorem eO {i : Nat} {l : Array Bool} (h : i ∈ Region.ready md ops l) (hl : l.size = ops.size) : l.getD i false = false ∧ i < l.size := by
 obtain ⟨h0, o, ho, _⟩ := mem_ready.1 h
 have hi : i < l.size := hl ▸ (Array.getElem?_eq_some_iff.1 ho).1
 simp [hi] at h0 ⊢
 exact h0
theorem kD {i : Nat} {l : Array Bool} (h : i ∈ Region.ready md ops l) : i < ops.size := by
 obtain ⟨_, o, ho, _⟩ := mem_ready.1 h
 exact (Array.getElem?_eq_some_iff.1 ho).1
theorem Nh {i : Nat} {l : Array Bool} (h : i < l.size) : (l.setIfInBounds i true).getD i false = true := by simp [h]
theorem lg {i n : Nat} {l : Array Bool} (h : i ∈ Region.ready md ops l) (hl : l.size = ops.size) (hn : l.getD n false = true → ∀ j, j < n → l.getD j false = true) (hi : i < n) : l.getD n false = false := by
 cases hh : l.getD n false
 ·rfl
 ·have := hn hh i hi
  rw [(eO h hl).1] at this
  cases this
theorem lW {i n : Nat} {l : Array Bool} (h : i ∈ Region.ready md ops l) (hl : l.size = ops.size) (hn : l.getD n false = true → ∀ j, j < n → l.getD j false = true) (hi : i < n) : (l.setIfInBounds i true).getD n false = true → ∀ j, j < n → (l.setIfInBounds i true).getD j false = true := fun hh => by
 rw [getD_set_ne false (by omega), lg h hl hn hi] at hh
 cases hh
theorem VX {n : Nat} {l : Array Bool} (h : n ∈ Region.ready md ops l) (hw : (List.range n).all (fun j => (waitsFor md ops n).contains j) = true) : (l.setIfInBounds n true).getD n false = true → ∀ j, j < n → (l.setIfInBounds n true).getD j false = true := fun _ j hj =>
 getD_set_true (Ng h (List.all_eq_true.1 hw j (List.mem_range.2 hj)))
theorem VY {l : Array Bool} (hl : l.size = ops.size) (h : l.toList.count false = 0) : Region.ready md ops l = [] := by
 apply List.eq_nil_iff_forall_not_mem.2
 intro i hi
 obtain ⟨h1, h2⟩ := eO hi hl
 simp [h2] at h1
 have := List.count_eq_zero.1 h
 exact this (by rw [← h1]; exact Array.getElem_mem_toList h2)
theorem Ni (I : Array Bool → Act → World → Prop)
  (hstep : ∀ l a w i, I l a w → l.size = ops.size → i ∈ Region.ready md ops l → wpOp P ops Q i (fun a' w' => I (l.setIfInBounds i true) a' w') a w)
  (hend : ∀ l a w, I l a w → l.size = ops.size → Region.ready md ops l = [] → Q .normal a w) :
  ∀ (fuel : Nat) (l : Array Bool) (a : Act) (w : World), l.size = ops.size → l.toList.count false ≤ fuel → I l a w → wpAny P md ops Q fuel l a w
 | 0, l, a, w, hl, hc, hI => by
  have h0 := VY (md := md) hl (Nat.le_zero.1 hc)
  exact ⟨h0, hend l a w hI hl h0⟩
 | fuel + 1, l, a, w, hl, hc, hI => by
  refine ⟨hend l a w hI hl, fun i hi => wpOp_mono (fun a' w' h' => ?_) (hstep l a w i hI hl hi)⟩
  obtain ⟨h1, h2⟩ := eO hi hl
  simp [h2] at h1
  refine Ni I hstep hend fuel _ a' w' (by simpa using hl) ?_ h'
  have h3 : i < l.toList.length := by simpa using h2
  rw [Array.toList_setIfInBounds, List.count_set h3]
  simp [h1] at hc ⊢
  omega
theorem VZ {l : Array Bool} (hl : l.size = ops.size) (hw : (List.range ops.size).all (fun i => (waitsFor md ops i).all (· < i)) = true) (h : Region.ready md ops l = []) (i : Nat) (hi : i < ops.size) : l.getD i false = true := by
 induction i using Nat.strongRecOn with
 | _ i ih =>
  cases hh : l.getD i false
  case true => rfl
  exfalso
  have : i ∈ Region.ready md ops l := by
   rw [mem_ready]
   refine ⟨?_, ops[i], by simp [hi], fun e he hb => ?_⟩
   ·have hi' : i < l.size := by omega
    simp [hi'] at hh ⊢; exact hh
   ·have h1 := List.all_eq_true.1 (List.all_eq_true.1 hw i (List.mem_range.2 hi)) e.on (by
     simp only [waitsFor, Array.getElem?_eq_getElem hi, List.mem_map, List.mem_filter, Array.mem_toList_iff]
     exact ⟨e, ⟨he, hb⟩, rfl⟩)
    have h2 : e.on < i := by simpa using h1
    exact ih e.on h2 (by omega)
  rw [h] at this
  cases this
end
abbrev gF (s e : Int) : Value := .agg #[.int .i64 s, .int .i64 e]
def gU (w : World) (g : Nat) (f : Int → Int → Option Int) : Prop :=
 ∃ es clock, w.heap[g]? = some (.map es clock) ∧ (∀ x ∈ es.toList, ∃ s e v, x.key = gF s e ∧ x.val = .int .i64 v ∧ f s e = some v) ∧ (∀ s e v, f s e = some v → ∃ x ∈ es.toList, x.key = gF s e)
theorem V8 (s e a b : Int) (w : World) : (Op.equal 215 (gF s e) (gF a b)).run Tryz.prog w = .ok (decide (s = a ∧ e = b)) w := by
 unfold Op.equal Op.maxDepth
 rw [run_equalIn_agg (P := Tryz.prog) w 9999 215 _ _ (by kernel_rfl) (by kernel_rfl)]
 have h1 : (Tryz.prog.fieldsOf 215).toList = [⟨ "state", 2, 0, false, "", "loop.example/g00296/impl", 0⟩, ⟨ "event", 2, 1, false, "", "loop.example/g00296/impl", 8⟩] := by kernel_rfl
 rw [h1]
 have p0 : ∀ u v : Int, (part 2 #[.int .i64 u, .int .i64 v] 0).run Tryz.prog w = .ok (.int .i64 u) w := fun u v => by kernel_rfl
 have p1 : ∀ u v : Int, (part 2 #[.int .i64 u, .int .i64 v] 1).run Tryz.prog w = .ok (.int .i64 v) w := fun u v => by kernel_rfl
 simp [Op.eqFields, p0, p1, run_equalIn_int (P := Tryz.prog) w 9998 2 .i64 .i64 _ _ (by kernel_rfl)]
 by_cases h : s = a <;> by_cases h' : e = b <;> simp [h, h']
theorem G6 (c : Bool) (s e : Int) (w : World) : (Instr.checkKey c 10000 215 (gF s e)).run Tryz.prog w = .ok () w := by
 kernel_rfl
theorem G7 (s e : Int) (w : World) (f : Int → Int → Option Int) : ∀ (es : List MapEntry) (i : Nat), (∀ x ∈ es, ∃ s e v, x.key = gF s e ∧ x.val = .int .i64 v ∧ f s e = some v) →
  ((∃ x ∈ es, x.key = gF s e) → ∃ j v, f s e = some v ∧ (Instr.findAsking 215 (gF s e) es i).run Tryz.prog w = .ok (some (j, .int .i64 v)) w) ∧ ((¬ ∃ x ∈ es, x.key = gF s e) → (Instr.findAsking 215 (gF s e) es i).run Tryz.prog w = .ok none w)
 | [], i, _ => ⟨fun ⟨x, hx, _⟩ => (by cases hx), fun _ => (by simp [Instr.findAsking])⟩
 | x :: es, i, h => by
  obtain ⟨a, b, v, hk, hv, hf⟩ := h x (by simp)
  have ih := G7 s e w f es (i + 1) (fun y hy => h y (by simp [hy]))
  have hq := V8 s e a b w
  by_cases hs : s = a ∧ e = b
  ·obtain ⟨rfl, rfl⟩ := hs
   simp at hq
   refine ⟨fun _ => ⟨i, v, hf, ?_⟩, fun hn => absurd ⟨x, by simp, hk⟩ hn⟩
   simp [Instr.findAsking, hk, hv, hq]
  ·have hd : decide (s = a ∧ e = b) = false := by simpa using hs
   rw [hd] at hq
   have hstep : (Instr.findAsking 215 (gF s e) (x :: es) i).run Tryz.prog w = (Instr.findAsking 215 (gF s e) es (i + 1)).run Tryz.prog w := by simp [Instr.findAsking, hk, hq]
   rw [hstep]
   have hne : x.key ≠ gF s e := by
    rw [hk]; intro hh; apply hs
    simp [gF] at hh
    exact ⟨hh.1.symm, hh.2.symm⟩
   constructor
   ·rintro ⟨y, hy, hyk⟩
    rcases List.mem_cons.1 hy with rfl | hy
    ·exact absurd hyk hne
    ·exact ih.1 ⟨y, hy, hyk⟩
   ·intro hn
    exact ih.2 (fun ⟨y, hy, hyk⟩ => hn ⟨y, by simp [hy], hyk⟩)
theorem Nj (s e : Int) (w : World) (es : List MapEntry) : (Instr.findKey 215 (gF s e) es).run Tryz.prog w = (Instr.findAsking 215 (gF s e) es 0).run Tryz.prog w := by
 unfold Instr.findKey
 have hu : (underlying 215).run Tryz.prog w = .ok (.struct (Tryz.prog.fieldsOf 215)) w := by kernel_rfl
 cases es with
 | nil => simp [hu, Instr.findNow, Instr.findAsking]
 | cons x es =>
  have hn : Instr.findNow (.struct (Tryz.prog.fieldsOf 215)) (gF s e) (x :: es) 0 = none := by
   simp [Instr.findNow, Instr.sameNow]
  simp [hu, hn]
theorem Wd {w : World} {g : Nat} {f : Int → Int → Option Int} (h : gU w g f) (s e : Int) : (Instr.lookup 180 (.map (some g)) (gF s e) true).run Tryz.prog w = .ok (.tuple #[.int .i64 ((f s e).getD 0), .bool (f s e).isSome]) w := by
 obtain ⟨es, clock, hb, h1, h2⟩ := h
 have hu : (underlying 180).run Tryz.prog w = .ok (.map 215 2) w := by kernel_rfl
 have hg : (getObj g).run Tryz.prog w = .ok (.map es clock) w := MapKept.run_getObj_map hb
 have hz : (zeroValue 2).run Tryz.prog w = .ok (.int .i64 0) w := by kernel_rfl
 have hf := G7 s e w f es.toList 0 h1
 have hK := Nj s e w es.toList
 by_cases hex : ∃ x ∈ es.toList, x.key = gF s e
 ·obtain ⟨j, v, hv, hr⟩ := hf.1 hex
  have hK2 : (Instr.findKey 215 (gF s e) es.toList).run Tryz.prog w = .ok (some (j, .int .i64 v)) w := by
   rw [hK]; exact hr
  simp [Instr.lookup, hu, hg, G6, hK2, hv]
 ·have hr := hf.2 hex
  have hv : f s e = none := by
   cases hh : f s e with
   | none => rfl
   | some v => exact absurd (h2 s e v hh) hex
  have hK2 : (Instr.findKey 215 (gF s e) es.toList).run Tryz.prog w = .ok none w := by
   rw [hK]; exact hr
  simp [Instr.lookup, hu, hg, G6, hK2, hv, hz]
def qD (f : Int → Int → Option Int) (s e v : Int) : Int → Int → Option Int := fun a b => if a = s ∧ b = e then some v else f a b
theorem kM {w : World} {g : Nat} {f : Int → Int → Option Int} (h : gU w g f) (s e v : Int) (hn : f s e = none) : ∃ w', (Instr.mapUpdate 180 (.map (some g)) (gF s e) (.int .i64 v)).run Tryz.prog w = .ok () w' ∧ gU w' g (qD f s e v) ∧ w.grownBy w' (some g) := by
 obtain ⟨es, clock, hb, h1, h2⟩ := h
 have hu : (underlying 180).run Tryz.prog w = .ok (.map 215 2) w := by kernel_rfl
 have hg : (getObj g).run Tryz.prog w = .ok (.map es clock) w := MapKept.run_getObj_map hb
 have hf := G7 s e w f es.toList 0 h1
 have hK := Nj s e w es.toList
 have hex : ¬ ∃ x ∈ es.toList, x.key = gF s e := by
  rintro ⟨x, hx, hxk⟩
  obtain ⟨a, b, v', hk', _, hf'⟩ := h1 x hx
  rw [hk'] at hxk
  simp [gF] at hxk
  rw [hxk.1, hxk.2, hn] at hf'
  cases hf'
 have hK2 : (Instr.findKey 215 (gF s e) es.toList).run Tryz.prog w = .ok none w := by
  rw [hK]; exact hf.2 hex
 refine ⟨ChangeMaps.setBlock w g (.map (es.push ⟨gF s e, .int .i64 v, clock⟩) (clock + 1)), ?_, ?_, ?_⟩
 ·have hset : (setObj g (.map (es.push ⟨gF s e, .int .i64 v, clock⟩) (clock + 1))).run Tryz.prog w = .ok () (ChangeMaps.setBlock w g (.map (es.push ⟨gF s e, .int .i64 v, clock⟩) (clock + 1))) := by
   exact MapKept.run_setObj_map _ hb
  simp [Instr.mapUpdate, hu, hg, G6, hK2, hset]
 ·refine ⟨_, _, ChangeMaps.heap_setBlock_same hb _, ?_, ?_⟩
  ·intro x hx
   simp at hx
   rcases hx with hx | rfl
   ·obtain ⟨a, b, v', hk', hv', hf'⟩ := h1 x (by simpa using hx)
    refine ⟨a, b, v', hk', hv', ?_⟩
    unfold qD
    split
    ·rename_i hab
     rw [hab.1, hab.2, hn] at hf'
     cases hf'
    ·exact hf'
   ·exact ⟨s, e, v, rfl, rfl, by simp [qD]⟩
  ·intro a b v' hv'
   unfold qD at hv'
   split at hv'
   ·rename_i hab
    obtain ⟨rfl, rfl⟩ := hab
    exact ⟨⟨gF a b, .int .i64 v, clock⟩, by simp, rfl⟩
   ·obtain ⟨x, hx, hxk⟩ := h2 a b v' hv'
    exact ⟨x, by simp at hx ⊢; exact Or.inl hx, hxk⟩
 ·exact ⟨rfl, rfl, rfl, by simp [ChangeMaps.setBlock], fun i _ hi => ChangeMaps.heap_setBlock_other hb _ (fun e => hi (by rw [e]))⟩
theorem Wh {w : World} {g : Nat} {f : Int → Int → Option Int} (h : gU w g f) (t : TypeId) : ∃ w', (Builtin.clear_ #[180] t #[.map (some g)]).run Tryz.prog w = .ok (.tuple #[]) w' ∧ gU w' g (fun _ _ => none) ∧ w.grownBy w' (some g) := by
 obtain ⟨es, clock, hb, h1, h2⟩ := h
 have hu : (underlying 180).run Tryz.prog w = .ok (.map 215 2) w := by kernel_rfl
 have hg : (getObj g).run Tryz.prog w = .ok (.map es clock) w := MapKept.run_getObj_map hb
 refine ⟨ChangeMaps.setBlock w g (.map #[] clock), ?_, ?_, ?_⟩
 ·have hset : (setObj g (.map #[] clock)).run Tryz.prog w = .ok () (ChangeMaps.setBlock w g (.map #[] clock)) := MapKept.run_setObj_map _ hb
  simp [Builtin.clear_, hu, hg, hset]
 ·exact ⟨_, _, ChangeMaps.heap_setBlock_same hb _, by simp, by simp⟩
 ·exact ⟨rfl, rfl, rfl, by simp [ChangeMaps.setBlock], fun i _ hi => ChangeMaps.heap_setBlock_other hb _ (fun e => hi (by rw [e]))⟩
theorem Wi (w : World) : gU (w.alloc (.map #[] 0)) w.heap.size (fun _ _ => none) := ⟨#[], 0, (MapKept.heap_alloc w _).1, by simp, by simp⟩
theorem gU.kept {w w' : World} {g : Nat} {f : Int → Int → Option Int} {row : Option Nat} (h : gU w g f) (hg : w.grownBy w' row) (hne : some g ≠ row) : gU w' g f := by
 obtain ⟨es, clock, hb, r⟩ := h
 exact ⟨es, clock, (hg.block g (Array.getElem?_eq_some_iff.1 hb).1 hne).trans hb, r⟩
theorem gU.lt {w : World} {g : Nat} {f : Int → Int → Option Int} (h : gU w g f) : g < w.heap.size := by
 obtain ⟨es, clock, hb, r⟩ := h
 exact (Array.getElem?_eq_some_iff.1 hb).1
theorem gU.setCell {w : World} {g : Nat} {f : Int → Int → Option Int} (h : gU w g f) {a : Addr} (ha : g ≠ a.block) (u : Value) : gU (w.setCell a u) g f := by
 obtain ⟨es, clock, hb, r⟩ := h
 exact ⟨es, clock, by rw [RowKit.Below.heap_setCell _ _ _ _ ha]; exact hb, r⟩
theorem gU.ext {w : World} {g : Nat} {f f' : Int → Int → Option Int} (h : gU w g f) (he : ∀ s e, f s e = f' s e) : gU w g f' := by
 obtain rfl : f = f' := funext fun s => funext fun e => he s e
 exact h
end Go.Proofs.YtlpbnkideaojeaaGreatDoor
namespace Go.Proofs.YtlpbnkideaojeaaGreatDoor
open Go.Shelf Go.RowKit
def Wj : Go.Shelf.Ren := ⟨fun | 129 => 157 | 173 => 62 | 246 => 101 | 283 => 128 | 284 => 129 | 285 => 130 | 286 => 131 | 317 => 156 | 318 => 158 | 319 => 159 | 320 => 160 | 337 => 170 | 338 => 171 | n => n, fun | 0 => 0 | 2 => 2 | 3 => 3 | 4 => 4 | 5 => 5 | 9 => 9 | 20 => 20 | 37 => 127 | 46 => 165 | 51 => 225 | 53 => 191 | 171 => 190 | 173 => 194 | 212 => 224 | 213 => 226 | 232 => 239 | 233 => 240 | n => n, fun | 17 => 0 | 18 => 1 | 19 => 2 | n => n⟩
theorem U8 : Go.Proofs.LaysM.n173 Tryz.prog Wj := {
 mixed := by kernel_rfl
 f129 := Tryz.func157.trans (congrArg some (by kernel_rfl))
 f173 := Tryz.func62.trans (congrArg some (by kernel_rfl))
 f246 := Tryz.func101.trans (congrArg some (by kernel_rfl))
 f283 := Tryz.func128.trans (congrArg some (by kernel_rfl))
 f284 := Tryz.func129.trans (congrArg some (by kernel_rfl))
 f285 := Tryz.func130.trans (congrArg some (by kernel_rfl))
 f286 := Tryz.func131.trans (congrArg some (by kernel_rfl))
 f317 := Tryz.func156.trans (congrArg some (by kernel_rfl))
 f318 := Tryz.func158.trans (congrArg some (by kernel_rfl))
 f319 := Tryz.func159.trans (congrArg some (by kernel_rfl))
 f320 := Tryz.func160.trans (congrArg some (by kernel_rfl))
 f337 := Tryz.func170.trans (congrArg some (by kernel_rfl))
 f338 := Tryz.func171.trans (congrArg some (by kernel_rfl))
 t0 := Tryz.underlying0
 a0 := Tryz.isAgg0
 z0 := Tryz.sizeOf0
 v0 := Tryz.zeroValue0
 t2 := Tryz.underlying2
 a2 := Tryz.isAgg2
 z2 := Tryz.sizeOf2
 v2 := Tryz.zeroValue2
 t3 := Tryz.underlying3
 a3 := Tryz.isAgg3
 z3 := Tryz.sizeOf3
 v3 := Tryz.zeroValue3
 t4 := Tryz.underlying4
 a4 := Tryz.isAgg4
 z4 := Tryz.sizeOf4
 v4 := Tryz.zeroValue4
 t5 := Tryz.underlying5
 a5 := Tryz.isAgg5
 z5 := Tryz.sizeOf5
 v5 := Tryz.zeroValue5
 t9 := Tryz.underlying9
 a9 := Tryz.isAgg9
 z9 := Tryz.sizeOf9
 v9 := Tryz.zeroValue9
 t20 := Tryz.underlying20
 a20 := Tryz.isAgg20
 z20 := Tryz.sizeOf20
 v20 := Tryz.zeroValue20
 t37 := Tryz.underlying127
 a37 := Tryz.isAgg127
 z37 := Tryz.sizeOf127
 v37 := Tryz.zeroValue127
 t46 := Tryz.underlying165
 a46 := Tryz.isAgg165
 z46 := Tryz.sizeOf165
 v46 := Tryz.zeroValue165
 t51 := Tryz.underlying225
 a51 := Tryz.isAgg225
 z51 := Tryz.sizeOf225
 v51 := Tryz.zeroValue225
 t53 := Tryz.underlying191
 a53 := Tryz.isAgg191
 z53 := Tryz.sizeOf191
 v53 := Tryz.zeroValue191
 t171 := Tryz.underlying190
 a171 := Tryz.isAgg190
 z171 := Tryz.sizeOf190
 v171 := Tryz.zeroValue190
 t173 := Tryz.underlying194
 a173 := Tryz.isAgg194
 z173 := Tryz.sizeOf194
 v173 := Tryz.zeroValue194
 t212 := Tryz.underlying224
 a212 := Tryz.isAgg224
 z212 := Tryz.sizeOf224
 v212 := Tryz.zeroValue224
 t213 := Tryz.underlying226
 a213 := Tryz.isAgg226
 z213 := Tryz.sizeOf226
 t232 := Tryz.underlying239
 a232 := Tryz.isAgg239
 z232 := Tryz.sizeOf239
 v232 := Tryz.zeroValue239
 t233 := Tryz.underlying240
 a233 := Tryz.isAgg240
 z233 := Tryz.sizeOf240
 v233 := Tryz.zeroValue240
 g17 := by kernel_rfl
 g18 := by kernel_rfl
 g19 := by kernel_rfl
 i0 := by kernel_rfl
 i2 := by kernel_rfl
 i3 := by kernel_rfl
 i4 := by kernel_rfl
 i5 := by kernel_rfl
 i9 := by kernel_rfl
 i20 := by kernel_rfl
 i37 := by kernel_rfl
 i46 := by kernel_rfl
 i51 := by kernel_rfl
 i53 := by kernel_rfl
 i171 := by kernel_rfl
 i173 := by kernel_rfl
 i212 := by kernel_rfl
 i232 := by kernel_rfl
 i233 := by kernel_rfl
 m17 := by kernel_rfl
 m18 := by kernel_rfl
 m19 := by kernel_rfl
}
end Go.Proofs.YtlpbnkideaojeaaGreatDoor
