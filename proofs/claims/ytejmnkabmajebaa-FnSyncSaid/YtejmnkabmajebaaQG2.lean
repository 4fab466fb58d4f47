/- Several small texts of one level, one behind the other. -/
import Derived.Test.YtejmnkabmajebaaQG1
import Derived.Handy
import Derived.Lib.SmallJoins
import Derived.WalkLawsBesides
import Derived.Deep.AppendLies
import Derived.Deep.Slices
import Derived.Laws.MakeOwn
import Derived.Maps.AppendAt
import Derived.Laws.AppendOwn
import Derived.Laws.IdiomStrings
import Derived.Lib.BufferRead
import Derived.RangeFuncBox
import Derived.Shelf.Lays
import Derived.Shelf.Small.Strs
import Derived.OrdersIn
import Derived.TacticsIn
import Derived.Deep.QuietTactic
import Derived.BigQuiet
import Derived.Shelf.LaysM
import Derived.Shelf.Strconv.Clone
import Derived.RegionTactic
/- The cursor from which the laws draw their inputs: what its functions do to memory, and in what range they answer. -/
namespace Go.Proofs.Ytejmnkabmajebaa
open Go.RowKit
set_option maxRecDepth 100000
set_option linter.unusedSimpArgs false
set_option linter.unusedVariables false

/-- Of what was there nothing has turned but block g. -/
structure Moves (g : Nat) (w w' : World) : Prop where
  os : w'.os = w.os
  tape : w'.tape = w.tape
  output : w'.output = w.output
  size : w.heap.size ≤ w'.heap.size
  block : ∀ k, k < w.heap.size → k ≠ g → w'.heap[k]? = w.heap[k]?

theorem Moves.refl (g : Nat) (w : World) : Moves g w w := ⟨rfl, rfl, rfl, Nat.le_refl _, fun _ _ _ => rfl⟩
theorem Moves.trans {g : Nat} {a b c : World} (h : Moves g a b) (k : Moves g b c) : Moves g a c :=
  ⟨k.os.trans h.os, k.tape.trans h.tape, k.output.trans h.output, Nat.le_trans h.size k.size, fun i hi hg => (k.block i (Nat.lt_of_lt_of_le hi h.size) hg).trans (h.block i hi hg)⟩
theorem Moves.of_below {g : Nat} {a b : World} (h : Below a.heap.size a b) : Moves g a b := ⟨h.os, h.tape, h.output, h.size, fun k hk _ => h.block k hk⟩
theorem Moves.drewN {g : Nat} {a b : World} (n : Nat) (h : Moves g a b) : Moves g a (b.drewN n) := ⟨h.os, h.tape, h.output, h.size, h.block⟩
theorem Moves.drew {g : Nat} {a b : World} (h : Moves g a b) : Moves g a b.drew := ⟨h.os, h.tape, h.output, h.size, h.block⟩
theorem Moves.alloc {g : Nat} {a b : World} (h : Moves g a b) (o : Obj) : Moves g a (b.alloc o) := h.trans (Moves.of_below (Joins.below_alloc1 b o))
theorem Moves.set {g : Nat} {a b : World} (h : Moves g a b) (o : Nat) (v : Value) : Moves g a (b.setCell ⟨g, o, none⟩ v) :=
  h.trans ⟨rfl, rfl, rfl, by simp, fun k _ hg => Below.heap_setCell b ⟨g, o, none⟩ v k hg⟩
/-- A store into a block that the call itself made. -/
theorem Moves.setNew {g : Nat} {a b : World} (h : Moves g a b) (p : Addr) (hp : a.heap.size ≤ p.block) (v : Value) : Moves g a (b.setCell p v) :=
  ⟨h.os, h.tape, h.output, by simpa using h.size, fun k hk hg => (Below.heap_setCell b p v k (by omega)).trans (h.block k hk hg)⟩
theorem Moves.below {g B : Nat} {a b : World} (h : Moves g a b) (h1 : B ≤ g) (h2 : B ≤ a.heap.size) : Below B a b := ⟨h.os, h.tape, h.output, h.size, fun k hk => h.block k (by omega) (by omega)⟩
theorem Moves.cell {g : Nat} {a b : World} (h : Moves g a b) (k o : Nat) (h1 : k < a.heap.size) (h2 : k ≠ g) : b.cell? ⟨k, o, none⟩ = a.cell? ⟨k, o, none⟩ := World.cell?_of_block (w := a) (h.block k h1 h2)
theorem Moves.frozen {g : Nat} {a b : World} (h : Moves g a b) (k o : Nat) (h1 : k < a.heap.size) (h2 : k ≠ g) : b.frozen? ⟨k, o, none⟩ = a.frozen? ⟨k, o, none⟩ := World.frozen?_of_block (w := a) (h.block k h1 h2)

/-- The bytes of the draw, in blocks below B. -/
def CodeAt (w : World) (a : Option Addr) (len B : Nat) : Prop := ∀ j, j < len → ∃ (b o : Nat) (z : Int), a = some ⟨b, o, none⟩ ∧ b < B ∧ 0 ≤ z ∧ z ≤ 255 ∧ w.cell? ⟨b, o + j, none⟩ = some (.int .u8 z)

theorem CodeAt.kept {w w' : World} {a : Option Addr} {len B : Nat} (h : CodeAt w a len B) (hb : Below B w w') : CodeAt w' a len B := fun j hj => by
  obtain ⟨b, o, z, h1, h2, h3, h4, h5⟩ := h j hj
  exact ⟨b, o, z, h1, h2, h3, h4, by rw [hb.cell (p := ⟨b, o + j, none⟩) h2]; exact h5⟩

/-- A cursor at block g over bytes in blocks below B. -/
def Cur (w : World) (g B : Nat) : Prop := B ≤ g ∧ ∃ (a : Option Addr) (len cap i : Nat) (h : Int), len ≤ 4096 ∧ i ≤ len ∧ CodeAt w a len B ∧ w.heap[g]? = some (.cells #[.slice a len cap, .int .i64 i, .int .i64 h] 94 (0, 0))

theorem Cur.lt {w : World} {g B : Nat} (h : Cur w g B) : g < w.heap.size := by
  obtain ⟨_, a, len, cap, i, hh, _, _, _, hg⟩ := h
  exact (Array.getElem?_eq_some_iff.1 hg).1

/-- Whatever leaves the cursor's block and what lies below B as it is keeps the cursor. -/
theorem Cur.kept {w w' : World} {g B : Nat} (h : Cur w g B) (hb : Below (g + 1) w w') : Cur w' g B := by
  obtain ⟨h0, a, len, cap, i, hh, h1, h2, h3, hg⟩ := h
  exact ⟨h0, a, len, cap, i, hh, h1, h2, h3.kept (hb.mono (by omega)), by rw [hb.block g (by omega)]; exact hg⟩


theorem Cur.drewN {w : World} {g B : Nat} (h : Cur w g B) (q : Nat) : Cur (w.drewN q) g B := h.kept ⟨rfl, rfl, rfl, Nat.le_refl _, fun _ _ => rfl⟩
theorem Cur.drew {w : World} {g B : Nat} (h : Cur w g B) : Cur w.drew g B := h.kept ⟨rfl, rfl, rfl, Nat.le_refl _, fun _ _ => rfl⟩
theorem Cur.alloc {w : World} {g B : Nat} (h : Cur w g B) (o : Obj) : Cur (w.alloc o) g B := h.kept ((Joins.below_alloc1 w o).mono h.lt)
theorem Cur.set {w : World} {g B : Nat} (h : Cur w g B) (p : Addr) (v : Value) (hp : g < p.block) : Cur (w.setCell p v) g B :=
  h.kept ⟨rfl, rfl, rfl, by simp, fun k hk => Below.heap_setCell w p v k (by omega)⟩
theorem Cur.below {w w' : World} {g B : Nat} (h : Cur w g B) (hb : Below w.heap.size w w') : Cur w' g B := h.kept (hb.mono h.lt)

theorem Cur.step0 {w : World} {g B : Nat} (h0 : B ≤ g) {a : Option Addr} {len cap i : Nat} {h : Int} (h1 : len ≤ 4096) (h2 : i ≤ len) (h3 : CodeAt w a len B)
    (hg : w.heap[g]? = some (.cells #[.slice a len cap, .int .i64 i, .int .i64 h] 94 (0, 0))) (H : Int) (q : Nat) :
    Cur ((w.setCell ⟨g, 2, none⟩ (.int .i64 H)).drewN q) g B ∧ Moves g w ((w.setCell ⟨g, 2, none⟩ (.int .i64 H)).drewN q) := by
  have m := ((Moves.refl g w).set 2 (.int .i64 H)).drewN q
  refine ⟨⟨h0, a, len, cap, i, H, h1, h2, h3.kept (m.below h0 (by have := (Array.getElem?_eq_some_iff.1 hg).1; omega)), ?_⟩, m⟩
  have := Joins.block_setCell (i := 2) hg (.int .i64 H)
  simpa using this

theorem Cur.step1 {w : World} {g B : Nat} (h0 : B ≤ g) {a : Option Addr} {len cap i : Nat} {h : Int} (h1 : len ≤ 4096) (h3 : CodeAt w a len B)
    (hg : w.heap[g]? = some (.cells #[.slice a len cap, .int .i64 i, .int .i64 h] 94 (0, 0))) (H : Int) (q i' : Nat) (z : Int) (hz : z = i') (hi : i' ≤ len) :
    Cur (((w.setCell ⟨g, 2, none⟩ (.int .i64 H)).drewN q).setCell ⟨g, 1, none⟩ (.int .i64 z)) g B ∧ Moves g w (((w.setCell ⟨g, 2, none⟩ (.int .i64 H)).drewN q).setCell ⟨g, 1, none⟩ (.int .i64 z)) := by
  subst hz
  have m := (((Moves.refl g w).set 2 (.int .i64 H)).drewN q).set 1 (.int .i64 (i' : Int))
  refine ⟨⟨h0, a, len, cap, i', H, h1, hi, h3.kept (m.below h0 (by have := (Array.getElem?_eq_some_iff.1 hg).1; omega)), ?_⟩, m⟩
  have h5 : ((w.setCell ⟨g, 2, none⟩ (.int .i64 H)).drewN q).heap[g]? = some (.cells #[.slice a len cap, .int .i64 i, .int .i64 H] 94 (0, 0)) := by
    have := Joins.block_setCell (i := 2) hg (.int .i64 H)
    simpa using this
  have := Joins.block_setCell (i := 1) h5 (.int .i64 (i' : Int))
  simpa using this

theorem and255 (n : Int) : bits .and .i64 n 255 = n % 256 := by
  have h255 : (BitVec.ofInt 64 255).toNat = 2 ^ 8 - 1 := by decide
  have key : (BitVec.ofInt 64 n &&& BitVec.ofInt 64 255).toNat = (n % ((2 ^ 64 : Nat) : Int)).toNat % 2 ^ 8 := by
    rw [BitVec.toNat_and, BitVec.toNat_ofInt, h255, Nat.and_two_pow_sub_one_eq_mod]
  show IntKind.i64.wrap ((BitVec.ofInt 64 n &&& BitVec.ofInt 64 255).toNat : Nat) = n % 256
  rw [key, IntKind.wrap_i64]
  omega

theorem and255_lo (n : Int) : 0 ≤ bits .and .i64 n 255 := by rw [and255]; omega
theorem and255_hi (n : Int) : bits .and .i64 n 255 ≤ 255 := by rw [and255]; omega

set_option maxHeartbeats 400000 in
theorem byte1 (g B : Nat) (w : World) (hc : Cur w g B) :
    Calls Try.prog 73 #[.pointer (some ⟨g, 0, none⟩)] w fun e w' => ∃ x : Int, 0 ≤ x ∧ x ≤ 255 ∧ e = .returned (.int .i64 x) ∧ Cur w' g B ∧ Moves g w w' := by
  obtain ⟨h0, a, len, cap, i, h, h1, h2, h3, hg⟩ := hc
  have c0 := Joins.cell_of_block hg 0
  have c1 := Joins.cell_of_block hg 1
  have c2 := Joins.cell_of_block hg 2
  have f1 := Joins.unfrozen_of_block hg 1
  have f2 := Joins.unfrozen_of_block hg 2
  simp at c0 c1 c2
  by_cases hlt : i < len
  · obtain ⟨b, o, z, rfl, hb, z0, z1, hz⟩ := h3 i hlt
    have hne : b ≠ g := by omega
    go_enter Try.func73, Try.ntmps73
    go_wp2_with fail
    go_quiet (fail)
    go_wp2_with fail
    go_quiet (fail)
    go_wp2_with fail
    go_quiet (fail)
    go_wp2_with fail
    go_ret
    exact ⟨_, and255_lo _, and255_hi _, rfl, Cur.step1 h0 h1 h3 hg _ _ (i + 1) _ (by simp) (by omega)⟩
  · have hge : ¬ ((i : Int) < (len : Int)) := by omega
    go_enter Try.func73, Try.ntmps73
    go_wp2_with fail
    go_quiet (fail)
    go_wp2_with fail
    go_quiet (fail)
    go_wp2_with fail
    go_ret
    exact ⟨_, and255_lo _, and255_hi _, rfl, (Cur.step0 h0 h1 h2 h3 hg _ _).1.drewN _, (Cur.step0 h0 h1 h2 h3 hg _ _).2.drewN _⟩

theorem emod_lt_of {x n : Int} (h0 : 0 ≤ x) (hn : 0 < n) : 0 ≤ x % n ∧ x % n < n := ⟨Int.emod_nonneg _ (by omega), Int.emod_lt_of_pos _ hn⟩

theorem below1 (g B : Nat) (n : Int) (w : World) (hc : Cur w g B) (hn : n ≤ 1000000000) :
    Calls Try.prog 48 #[.pointer (some ⟨g, 0, none⟩), .int .i64 n] w fun e w' => ∃ x : Int, 0 ≤ x ∧ (0 < n → x < n) ∧ (n ≤ 0 → x = 0) ∧ e = .returned (.int .i64 x) ∧ Cur w' g B ∧ Moves g w w' := by
  by_cases h0 : n ≤ 0
  · go_enter Try.func48, Try.ntmps48
    go_wp2_with fail
    go_ret
    exact ⟨0, by omega, by omega, by omega, rfl, hc, Moves.refl _ _⟩
  · by_cases h1 : n ≤ 256
    · go_enter Try.func48, Try.ntmps48
      go_wp2_with fail
      refine (byte1 g B _ hc).mono ?_; rintro e w1 ⟨x, x0, x1, rfl, hc1, hm1⟩
      go_wp2_with fail
      go_ret
      exact ⟨_, (emod_lt_of x0 (by omega)).1, fun _ => (emod_lt_of x0 (by omega)).2, by omega, rfl, hc1, hm1⟩
    · go_enter Try.func48, Try.ntmps48
      go_wp2_with fail
      refine (byte1 g B _ hc).mono ?_; rintro e w1 ⟨x, x0, x1, rfl, hc1, hm1⟩
      go_wp2_with fail
      refine (byte1 g B _ hc1).mono ?_; rintro e w2 ⟨y, y0, y1, rfl, hc2, hm2⟩
      go_wp2_with fail
      refine (byte1 g B _ hc2).mono ?_; rintro e w3 ⟨z, z0, z1, rfl, hc3, hm3⟩
      go_wp2_with fail
      refine (byte1 g B _ hc3).mono ?_; rintro e w4 ⟨v, v0, v1, rfl, hc4, hm4⟩
      go_wp2_with fail
      go_ret
      exact ⟨_, (emod_lt_of (by omega) (by omega)).1, fun _ => (emod_lt_of (by omega) (by omega)).2, by omega, rfl, hc4, ((hm1.trans hm2).trans hm3).trans hm4⟩

theorem once1 (g B : Nat) (n : Int) (w : World) (hc : Cur w g B) (hn : n ≤ 1000000000) :
    Calls Try.prog 42 #[.pointer (some ⟨g, 0, none⟩), .int .i64 n] w fun e w' => ∃ v : Bool, e = .returned (.bool v) ∧ Cur w' g B ∧ Moves g w w' := by
  go_enter Try.func42, Try.ntmps42
  go_wp2_with fail
  refine (below1 g B n _ hc hn).mono ?_; rintro e w1 ⟨x, x0, x1, x2, rfl, hc1, hm1⟩
  go_wp2_with fail
  go_ret
  exact ⟨_, rfl, hc1, hm1⟩

theorem Cur.new (w : World) (a : Option Addr) (len cap : Nat) (H : Int) (hl : len ≤ 4096) (hc : CodeAt w a len w.heap.size) :
    Cur (w.alloc (.cells #[.slice a len cap, .int .i64 0, .int .i64 H] 94)) w.heap.size w.heap.size :=
  ⟨Nat.le_refl _, a, len, cap, 0, H, hl, Nat.zero_le _, hc.kept (Joins.below_alloc1 w _), heap_alloc_new w _⟩

set_option maxHeartbeats 400000 in
theorem new1 (a : Option Addr) (len cap : Nat) (w : World) (hl : len ≤ 4096) (hcode : CodeAt w a len w.heap.size) :
    Calls Try.prog 36 #[.slice a len cap] w fun e w' => ∃ g : Nat, e = .returned (.pointer (some ⟨g, 0, none⟩)) ∧ w.heap.size ≤ g ∧ Cur w' g w.heap.size ∧ Below w.heap.size w w' := by
  go_enter Try.func36, Try.ntmps36
  go_wp2_with fail
  go_loop [3, 4] (fun h i => ∃ (k : Nat) (H : Int), k ≤ len ∧ i = .int .i64 k ∧ h = .int .i64 H) (fun _ i => len - (intOf i).toNat)
  case atStart => exact ⟨0, _, Nat.zero_le _, rfl, rfl⟩
  case round =>
    obtain ⟨k, H, hk, rfl, rfl⟩ := hrel
    by_cases hlt : k < len
    · obtain ⟨b, o, z, rfl, hb, z0, z1, hz⟩ := hcode k hlt
      have hz' : w.cell? ⟨b, o + (k : Int).toNat, none⟩ = some (.int .u8 z) := by simpa using hz
      go_wp2_with fail
      go_round
      case rel => exact ⟨k + 1, _, by omega, by go_num, rfl⟩
      case measure => simp [intOf]; omega
    · go_wp2_with fail
      go_ret
      exact ⟨_, rfl, Nat.le_refl _, Cur.new w a len cap _ hl hcode, Joins.below_alloc1 w _⟩
end Go.Proofs.Ytejmnkabmajebaa
/- Rows in memory: what a slice reads as, a row that a call made and owns, and what becomes of both when other blocks turn. -/
namespace Go.Proofs.Ytejmnkabmajebaa
open Go.RowKit
set_option maxRecDepth 100000
set_option linter.unusedVariables false
set_option linter.unusedSimpArgs false

theorem hide {p : Prop} (h : p) : Hid p := h
/-- The slice v has n elements of 'size' cells, and its cells hold xs. -/
def Reads (w : World) (v : Value) (n size : Nat) (xs : List Value) : Prop :=
  xs.length = n * size ∧ ∃ ad cap, v = .slice ad n cap ∧ n ≤ cap ∧ cap ≤ maxLen ∧
    (0 < n → ∃ b o, ad = some ⟨b, o, none⟩ ∧ b < w.heap.size ∧ ∀ j u, xs[j]? = some u → w.cell? ⟨b, o + j, none⟩ = some u)

/-- Of what was there only blocks from lo up to hi have turned. -/
structure Turn (lo hi : Nat) (w w' : World) : Prop where
  os : w'.os = w.os
  tape : w'.tape = w.tape
  output : w'.output = w.output
  size : w.heap.size ≤ w'.heap.size
  block : ∀ k, k < w.heap.size → (k < lo ∨ hi ≤ k) → w'.heap[k]? = w.heap[k]?

theorem Turn.refl (lo hi : Nat) (w : World) : Turn lo hi w w := ⟨rfl, rfl, rfl, Nat.le_refl _, fun _ _ _ => rfl⟩
theorem Turn.trans {lo hi : Nat} {a b c : World} (h : Turn lo hi a b) (k : Turn lo hi b c) : Turn lo hi a c :=
  ⟨k.os.trans h.os, k.tape.trans h.tape, k.output.trans h.output, Nat.le_trans h.size k.size, fun i hi h' => (k.block i (Nat.lt_of_lt_of_le hi h.size) h').trans (h.block i hi h')⟩
theorem Turn.wide {lo hi lo' hi' : Nat} {a b : World} (h : Turn lo hi a b) (h1 : lo' ≤ lo) (h2 : hi ≤ hi') : Turn lo' hi' a b :=
  ⟨h.os, h.tape, h.output, h.size, fun k hk h' => h.block k hk (by omega)⟩
theorem Turn.cell {lo hi : Nat} {a b : World} (h : Turn lo hi a b) (p o : Nat) (h1 : p < a.heap.size) (h2 : p < lo ∨ hi ≤ p) : b.cell? ⟨p, o, none⟩ = a.cell? ⟨p, o, none⟩ := World.cell?_of_block (h.block p h1 h2)
theorem Turn.frozen {lo hi : Nat} {a b : World} (h : Turn lo hi a b) (p o : Nat) (h1 : p < a.heap.size) (h2 : p < lo ∨ hi ≤ p) : b.frozen? ⟨p, o, none⟩ = a.frozen? ⟨p, o, none⟩ := World.frozen?_of_block (h.block p h1 h2)
theorem Turn.below {lo hi B : Nat} {a b : World} (h : Turn lo hi a b) (h1 : B ≤ lo) (h2 : B ≤ a.heap.size) : Below B a b := ⟨h.os, h.tape, h.output, h.size, fun k hk => h.block k (by omega) (by omega)⟩
theorem turn_of_below {B : Nat} {a b : World} (h : Below B a b) (hi : Nat) : Turn B (max hi a.heap.size) a b := ⟨h.os, h.tape, h.output, h.size, fun k hk h' => h.block k (by omega)⟩
/-- A call that made memory turned nothing. -/
theorem turn_new {a b : World} (h : Below a.heap.size a b) (lo hi : Nat) : Turn lo hi a b := ⟨h.os, h.tape, h.output, h.size, fun k hk _ => h.block k hk⟩
theorem Turn.alloc {lo hi : Nat} {a b : World} (h : Turn lo hi a b) (o : Obj) : Turn lo hi a (b.alloc o) :=
  ⟨h.os, h.tape, h.output, by simp; have := h.size; omega, fun k hk h' => by rw [((Below.refl b.heap.size b).alloc (Nat.le_refl _) o).block k (by have := h.size; omega)]; exact h.block k hk h'⟩
theorem Turn.setCell {lo hi : Nat} {a b : World} (h : Turn lo hi a b) {p : Addr} (v : Value) (h1 : (lo ≤ p.block ∧ p.block < hi) ∨ a.heap.size ≤ p.block) : Turn lo hi a (b.setCell p v) :=
  ⟨h.os, h.tape, h.output, by simp; exact h.size, fun k hk h' => by rw [Below.heap_setCell b p v k (by omega)]; exact h.block k hk h'⟩
theorem Turn.drewN {lo hi : Nat} {a b : World} (h : Turn lo hi a b) (n : Nat) : Turn lo hi a (b.drewN n) := ⟨h.os, h.tape, h.output, h.size, h.block⟩
theorem Turn.drew {lo hi : Nat} {a b : World} (h : Turn lo hi a b) : Turn lo hi a b.drew := ⟨h.os, h.tape, h.output, h.size, h.block⟩
theorem turn_grown {a b : World} {g lo hi : Nat} {row : Option Nat} (h : a.grownBy b row) (hr : ∀ k, row = some k → lo ≤ k ∧ k < hi) : Turn lo hi a b :=
  ⟨h.os, h.tape, h.output, h.size, fun k hk h' => h.block k hk (fun e => by have := hr k e.symm; omega)⟩

theorem gb_refl (w : World) (row : Option Nat) : w.grownBy w row := ⟨rfl, rfl, rfl, Nat.le_refl _, fun _ _ _ => rfl⟩
theorem gb_trans {a b c : World} {row : Option Nat} (h : a.grownBy b row) (k : b.grownBy c row) : a.grownBy c row :=
  ⟨k.os.trans h.os, k.tape.trans h.tape, k.output.trans h.output, Nat.le_trans h.size k.size, fun i hi hr => (k.block i (Nat.lt_of_lt_of_le hi h.size) hr).trans (h.block i hi hr)⟩
theorem gb_set {a b : World} {row : Option Nat} (h : a.grownBy b row) (p : Addr) (v : Value) (hp : row = some p.block) : a.grownBy (b.setCell p v) row :=
  ⟨h.os, h.tape, h.output, by simp; exact h.size, fun k hk hr => by rw [Below.heap_setCell b p v k (fun e => hr (by rw [hp, e]))]; exact h.block k hk hr⟩
theorem gb_drewN {a b : World} {row : Option Nat} (h : a.grownBy b row) (n : Nat) : a.grownBy (b.drewN n) row := ⟨h.os, h.tape, h.output, h.size, h.block⟩
theorem gb_new {a b : World} (h : Below a.heap.size a b) (row : Option Nat) : a.grownBy b row := ⟨h.os, h.tape, h.output, h.size, fun k hk _ => h.block k hk⟩

theorem Reads.kept {w w' : World} {v : Value} {n size : Nat} {xs : List Value} (h : Reads w v n size xs) (hs : w.heap.size ≤ w'.heap.size) (hk : ∀ k, v.ownBlock = some k → k < w.heap.size → w'.heap[k]? = w.heap[k]?) : Reads w' v n size xs := by
  obtain ⟨hl, ad, cap, rfl, h1, h2, h3⟩ := h
  refine ⟨hl, ad, cap, rfl, h1, h2, fun hn => ?_⟩
  obtain ⟨b, o, rfl, hb, hc⟩ := h3 hn
  exact ⟨b, o, rfl, by omega, fun j u hu => by rw [World.cell?_of_block (w := w) (hk b rfl hb)]; exact hc j u hu⟩
theorem Reads.new {w w' : World} {v : Value} {n size : Nat} {xs : List Value} (h : Reads w v n size xs) (hb : Below w.heap.size w w') : Reads w' v n size xs := h.kept hb.size fun k _ hk => hb.block k hk
theorem Reads.turn {lo hi : Nat} {w w' : World} {v : Value} {n size : Nat} {xs : List Value} (h : Reads w v n size xs) (ht : Turn lo hi w w') (hk : ∀ k, v.ownBlock = some k → k < lo ∨ hi ≤ k) : Reads w' v n size xs :=
  h.kept ht.size fun k e hk' => ht.block k hk' (hk k e)
theorem Reads.alloc {w : World} {v : Value} {n size : Nat} {xs : List Value} (h : Reads w v n size xs) (o : Obj) : Reads (w.alloc o) v n size xs := h.kept (by simp) fun k _ hk => ((Below.refl w.heap.size w).alloc (Nat.le_refl _) o).block k hk

theorem reads_of_owns {w : World} {base : Nat} {e : TypeId} {size : Nat} {v : Value} {n : Nat} {xs : List Value} (h : w.ownsRow base e size v n xs) : Reads w v n size xs := by
  refine ⟨h.1, ?_⟩
  rcases h.2 with ⟨rfl, rfl⟩ | ⟨g, cap, cur, rfl, hb, hg, h1, h2, h3, h4⟩
  · exact ⟨none, 0, rfl, Nat.le_refl _, Nat.zero_le _, fun h => absurd h (Nat.lt_irrefl _)⟩
  · refine ⟨some ⟨g, 0, none⟩, cap, rfl, h1, h2, fun hn => ⟨g, 0, rfl, (Array.getElem?_eq_some_iff.1 hg).1, fun j u hu => ?_⟩⟩
    rw [Nat.zero_add, cell_of_row w g j cur e (0, 0) hg]
    rw [← h4, List.getElem?_take] at hu
    split at hu
    · simpa using hu
    · cases hu

theorem owns_kept {w w' : World} {base : Nat} {e : TypeId} {size : Nat} {v : Value} {n : Nat} {xs : List Value} (h : w.ownsRow base e size v n xs) (hk : ∀ k, v.ownBlock = some k → k < w.heap.size → w'.heap[k]? = w.heap[k]?) : w'.ownsRow base e size v n xs := by
  refine ⟨h.1, ?_⟩
  rcases h.2 with hn | ⟨g, cap, cur, rfl, hb, hgg, rest⟩
  · exact .inl hn
  · refine .inr ⟨g, cap, cur, rfl, hb, ?_, rest⟩
    rw [hk g rfl (Array.getElem?_eq_some_iff.1 hgg).1]
    exact hgg
theorem owns_new {w w' : World} {base : Nat} {e : TypeId} {size : Nat} {v : Value} {n : Nat} {xs : List Value} (h : w.ownsRow base e size v n xs) (hb : Below w.heap.size w w') : w'.ownsRow base e size v n xs := owns_kept h fun k _ hk => hb.block k hk
theorem owns_turn {lo hi : Nat} {w w' : World} {base : Nat} {e : TypeId} {size : Nat} {v : Value} {n : Nat} {xs : List Value} (h : w.ownsRow base e size v n xs) (ht : Turn lo hi w w') (hk : ∀ k, v.ownBlock = some k → k < lo ∨ hi ≤ k) : w'.ownsRow base e size v n xs :=
  owns_kept h fun k e hk' => ht.block k hk' (hk k e)
theorem owns_base {w : World} {base base' : Nat} {e : TypeId} {size : Nat} {v : Value} {n : Nat} {xs : List Value} (h : w.ownsRow base e size v n xs) (hb : ∀ k, v.ownBlock = some k → base' ≤ k) : w.ownsRow base' e size v n xs := by
  refine ⟨h.1, ?_⟩
  rcases h.2 with hn | ⟨g, cap, cur, rfl, _, rest⟩
  · exact .inl hn
  · exact .inr ⟨g, cap, cur, rfl, hb g rfl, rest⟩
theorem owns_far {w : World} {base : Nat} {e : TypeId} {size : Nat} {v : Value} {n : Nat} {xs : List Value} (B : Nat) (h : w.ownsRow base e size v n xs) (hv : ∀ k, v.ownBlock = some k → B ≤ k) (p : Addr) (u : Value) (hp : p.block < B) : (w.setCell p u).ownsRow base e size v n xs :=
  owns_kept h fun k hk _ => Below.heap_setCell w p u k (by have := hv k hk; omega)
theorem owns_apart {w : World} {base : Nat} {e : TypeId} {size : Nat} {v : Value} {n : Nat} {xs : List Value} (h : w.ownsRow base e size v n xs) (p : Addr) (u : Value) (hp : v.ownBlock ≠ some p.block) : (w.setCell p u).ownsRow base e size v n xs :=
  owns_kept h fun k hk _ => Below.heap_setCell w p u k (fun e => hp (by rw [hk, e]))
/-- One cell of a row that is owned is set. -/
theorem owns_set {w : World} {base : Nat} {e : TypeId} {size : Nat} {v : Value} {n : Nat} {xs : List Value} (h : w.ownsRow base e size v n xs) {g : Nat} (hg : v.ownBlock = some g) (j : Nat) (u : Value) : (w.setCell ⟨g, j, none⟩ u).ownsRow base e size v n (xs.set j u) := by
  refine ⟨by simp [h.1], ?_⟩
  rcases h.2 with ⟨rfl, _⟩ | ⟨g', cap, cur, rfl, hb, hgg, h1, h2, h3, h4⟩
  · simp [Value.ownBlock] at hg
  · simp [Value.ownBlock] at hg
    subst hg
    refine .inr ⟨g', cap, cur.setIfInBounds j u, rfl, hb, ?_, h1, h2, by simp [h3], ?_⟩
    · simp [World.setCell, Array.getElem?_modify, hgg]
    · rw [← h4]; simp [List.take_set]
/-- What the walk wants of a row that is owned: where it lies, its cells, its marks. -/
theorem owns_open {w : World} {base : Nat} {e : TypeId} {size : Nat} {v : Value} {n : Nat} {xs : List Value} (h : w.ownsRow base e size v n xs) (hn : 0 < n) : ∃ g cap, v = .slice (some ⟨g, 0, none⟩) n cap ∧ v.ownBlock = some g ∧ base ≤ g ∧ g < w.heap.size ∧ n ≤ cap ∧ cap ≤ maxLen ∧
    (∀ j u, xs[j]? = some u → w.cell? ⟨g, j, none⟩ = some u) ∧ ∀ j, w.frozen? ⟨g, j, none⟩ = false := by
  rcases h.2 with ⟨rfl, rfl⟩ | ⟨g, cap, cur, rfl, hb, hgg, h1, h2, h3, h4⟩
  · exact absurd hn (Nat.lt_irrefl _)
  · refine ⟨g, cap, rfl, rfl, hb, (Array.getElem?_eq_some_iff.1 hgg).1, h1, h2, fun j u hu => ?_, fun j => by simp [World.frozen?, hgg]⟩
    rw [cell_of_row w g j cur e (0, 0) hgg]
    rw [← h4, List.getElem?_take] at hu
    split at hu
    · simpa using hu
    · cases hu
theorem owns_form {w : World} {base : Nat} {e : TypeId} {size : Nat} {v : Value} {n : Nat} {xs : List Value} (h : w.ownsRow base e size v n xs) : ∃ ad cap, v = .slice ad n cap ∧ n ≤ cap ∧ cap ≤ maxLen := by
  obtain ⟨_, ad, cap, h1, h2, h3, _⟩ := reads_of_owns h
  exact ⟨ad, cap, h1, h2, h3⟩
theorem owns_lt {w : World} {base : Nat} {e : TypeId} {size : Nat} {v : Value} {n : Nat} {xs : List Value} (h : w.ownsRow base e size v n xs) : ∀ k, v.ownBlock = some k → base ≤ k ∧ k < w.heap.size := h.lt

/-- Element i of rows laid one behind the other. -/
theorem flat_get {α : Type} (f : α → List Value) (s : Nat) (hf : ∀ x, (f x).length = s) (L : List α) (i : Nat) (hi : i < L.length) (r : Nat) (hr : r < s) : (L.flatMap f)[i * s + r]? = (f L[i])[r]? := by
  induction L generalizing i with
  | nil => exact absurd hi (Nat.not_lt_zero _)
  | cons x L ih =>
    cases i with
    | zero => simp only [List.flatMap_cons, Nat.zero_mul, Nat.zero_add]; rw [List.getElem?_append_left (by rw [hf]; omega)]; rfl
    | succ i =>
      simp only [List.flatMap_cons]
      rw [List.getElem?_append_right (by rw [hf, Nat.succ_mul]; omega), hf, show (i + 1) * s + r - s = i * s + r by rw [Nat.succ_mul]; omega]
      simpa using ih i (by simpa using hi)
theorem flat_length {α : Type} (f : α → List Value) (s : Nat) (hf : ∀ x, (f x).length = s) (L : List α) : (L.flatMap f).length = L.length * s := by
  induction L with
  | nil => simp
  | cons x L ih => simp only [List.flatMap_cons, List.length_append, List.length_cons, hf, ih, Nat.succ_mul]; omega
theorem flat_set {α : Type} (f : α → List Value) (s : Nat) (hf : ∀ x, (f x).length = s) (L : List α) (i : Nat) (hi : i < L.length) (r : Nat) (hr : r < s) (u : Value) (y : α) (hy : f y = (f L[i]).set r u) : (L.flatMap f).set (i * s + r) u = (L.set i y).flatMap f := by
  induction L generalizing i with
  | nil => exact absurd hi (Nat.not_lt_zero _)
  | cons x L ih =>
    cases i with
    | zero =>
      simp only [List.flatMap_cons, Nat.zero_mul, Nat.zero_add, List.set_cons_zero]
      rw [List.set_append_left _ _ (by rw [hf]; omega), hy]; rfl
    | succ i =>
      simp only [List.flatMap_cons, List.set_cons_succ]
      rw [List.set_append_right _ _ (by rw [hf, Nat.succ_mul]; omega), hf, show (i + 1) * s + r - s = i * s + r by rw [Nat.succ_mul]; omega]
      rw [ih i (by simpa using hi) (by simpa using hy)]
theorem int_eq {a b : Int} (h : a = b) : Value.int .i64 a = .int .i64 b := by rw [h]
theorem pre_set {xs ys : List Value} {m : Nat} {a : Value} (m' : Nat) (h : ∀ j, j < m → xs[j]? = ys[j]?) (hy : ys[m]? = some a) (hm : m < xs.length) (hm' : m' = m + 1) : ∀ j, j < m' → (xs.set m a)[j]? = ys[j]? := by
  intro j hj
  subst hm'
  rw [List.getElem?_set]
  split
  · rename_i h'; subst h'; simp [hy, hm]
  · exact h j (by omega)
theorem pre_end {xs ys : List Value} {m : Nat} (hx : xs.length = m) (hy : ys.length = m) (h : ∀ j, j < m → xs[j]? = ys[j]?) : xs = ys := List.ext_getElem? fun j => by
  by_cases hj : j < m
  · exact h j hj
  · rw [List.getElem?_eq_none (by omega), List.getElem?_eq_none (by omega)]
end Go.Proofs.Ytejmnkabmajebaa
/- What is in range: the program's word for it and the model's. -/
namespace Go.Proofs.Ytejmnkabmajebaa
open Go.RowKit
set_option maxRecDepth 100000
set_option linter.unusedSimpArgs false
set_option linter.unusedVariables false

/-- Is x from lo to hi? -/
def inB (x lo hi : Int) : Bool := decide (lo ≤ x ∧ x ≤ hi)
theorem inB_true {x lo hi : Int} (h : inB x lo hi = true) : lo ≤ x ∧ x ≤ hi := of_decide_eq_true h
theorem inB_false {x lo hi : Int} (h : inB x lo hi = false) : ¬ (lo ≤ x ∧ x ≤ hi) := of_decide_eq_false h

theorem implWithin (x lo hi : Int) (w : World) : Calls Try.prog 93 #[.int .i64 x, .int .i64 lo, .int .i64 hi] w fun e w' => e = .returned (.bool (inB x lo hi)) ∧ w' = w := by
  by_cases h1 : lo ≤ x
  · by_cases h2 : x ≤ hi
    · have : inB x lo hi = true := decide_eq_true ⟨h1, h2⟩
      rw [this]
      go_enter Try.func93, Try.ntmps93
      go_wp2_with fail
      go_ret
      simp
    · have : inB x lo hi = false := decide_eq_false (by omega)
      rw [this]
      go_enter Try.func93, Try.ntmps93
      go_wp2_with fail
      go_ret
      simp
  · have : inB x lo hi = false := decide_eq_false (by omega)
    rw [this]
    go_enter Try.func93, Try.ntmps93
    go_wp2_with fail
    go_ret
    simp

theorem specIn (x lo hi : Int) (w : World) : Calls Try.prog 75 #[.int .i64 x, .int .i64 lo, .int .i64 hi] w fun e w' => e = .returned (.bool (inB x lo hi)) ∧ w' = w := by
  by_cases h1 : lo ≤ x
  · by_cases h2 : x ≤ hi
    · have : inB x lo hi = true := decide_eq_true ⟨h1, h2⟩
      rw [this]
      go_enter Try.func75, Try.ntmps75
      go_wp2_with fail
      go_ret
      simp
    · have : inB x lo hi = false := decide_eq_false (by omega)
      rw [this]
      go_enter Try.func75, Try.ntmps75
      go_wp2_with fail
      go_ret
      simp
  · have : inB x lo hi = false := decide_eq_false (by omega)
    rw [this]
    go_enter Try.func75, Try.ntmps75
    go_wp2_with fail
    go_ret
    simp
end Go.Proofs.Ytejmnkabmajebaa
/- Texts out of rows of bytes. -/
namespace Go.Proofs.Ytejmnkabmajebaa
open Go.RowKit
set_option maxRecDepth 100000
set_option linter.unusedSimpArgs false
set_option linter.unusedVariables false

/-- A text out of numbers. -/
def strOf (l : List Int) : ByteArray := ⟨(l.map fun z => UInt8.ofNat z.toNat).toArray⟩
theorem strOf_size (l : List Int) : (strOf l).size = l.length := by simp [strOf, ByteArray.size]
theorem u8_of {z : Int} (h0 : 0 ≤ z) (h1 : z ≤ 255) : ((UInt8.ofNat z.toNat).toNat : Int) = z := by simp [UInt8.toNat_ofNat']; omega

theorem row_string {W : World} {base n : Nat} {v : Value} {l : List Int} (hown : W.ownsRow base 5 1 v n (l.map (Value.int .u8))) (hx : ∀ x ∈ l, 0 ≤ x ∧ x ≤ 255) :
    (convert 22 9 v).run Try.prog W = .ok (.string (strOf l)) W := by
  obtain ⟨h1, h2⟩ := hown
  rcases h2 with ⟨rfl, rfl⟩ | ⟨b, cap, cur, rfl, e2, e3, e4, e5, e6, e7⟩
  · have : l = [] := by simpa using h1
    subst this
    simpa [strOf] using Lib.run_convert_nil_bytes (P := Try.prog) W 22 9 5 0 Try.underlying22 Try.underlying5 Try.underlying9
  · have hn : (l.map fun z => UInt8.ofNat z.toNat).length = n := by simp at h1 ⊢; omega
    have := run_convert_bytes_back (P := Try.prog) W 22 9 5 ⟨b, 0, none⟩ cap (l.map fun z => UInt8.ofNat z.toNat) Try.underlying22 Try.underlying5 Try.underlying9 (fun j hjl => by
      have hj : j < l.length := by simpa using hjl
      have h6 : W.cell? ((⟨b, 0, none⟩ : Addr).add j) = cur[j]? := by by_cases hj0 : j = 0 <;> simp [Addr.add, World.cell?, e3, hj0]
      have h7 : cur.toList[j]? = some (Value.int .u8 l[j]) := by
        have h8 : (cur.toList.take n)[j]? = (l.map (Value.int .u8))[j]? := by rw [← e7]; simp
        rw [List.getElem?_take_of_lt (by simp at h1; omega)] at h8
        rw [h8]; simp [hj]
      rw [h6, ← Array.getElem?_toList, h7]
      have := hx l[j] (List.getElem_mem hj)
      rw [List.getElem_map, u8_of this.1 this.2])
    rw [hn] at this
    exact this

theorem ownsRow_one (w : World) (e : TypeId) (v : Value) : (w.alloc (.cells #[v] e)).ownsRow w.heap.size e 1 (.slice (some ⟨w.heap.size, 0, none⟩) 1 1) 1 [v] :=
  ⟨by simp, .inr ⟨w.heap.size, 1, #[v], rfl, Nat.le_refl _, World.alloc_heap_new w _, Nat.le_refl _, by simp [maxLen], by simp, by simp⟩⟩
end Go.Proofs.Ytejmnkabmajebaa
/- The library's strings.IndexByte at this program: the place of the first byte alike, or -1. Laid off the shelf's own contract. -/
namespace Go.Proofs.Ytejmnkabmajebaa
open Go.Shelf Go.RowKit
def ixRen : Go.Shelf.Ren := ⟨fun | 137 => 114 | 217 => 115 | 266 => 116 | n => n, fun | 3 => 3 | 9 => 9 | 5 => 5 | n => n, fun | n => n⟩
theorem ixLays : Go.Proofs.Lays.n137 Try.prog ixRen := {
  mixed := by kernel_rfl
  f137 := Try.func114.trans (congrArg some (by kernel_rfl))
  f217 := Try.func115.trans (congrArg some (by kernel_rfl))
  f266 := Try.func116.trans (congrArg some (by kernel_rfl))
  t3 := Try.underlying3
  a3 := Try.isAgg3
  z3 := Try.sizeOf3
  v3 := Try.zeroValue3
  t9 := Try.underlying9
  a9 := Try.isAgg9
  z9 := Try.sizeOf9
  v9 := Try.zeroValue9
  t5 := Try.underlying5
  a5 := Try.isAgg5
  z5 := Try.sizeOf5
  v5 := Try.zeroValue5 }
theorem indexByte (s : ByteArray) (c : Int) (w : World) :
    Calls Try.prog 114 #[.string s, .int .u8 c] w fun e w' => e = .returned (.int .i64 (Lib.indexByte s.data.toList c.toNat.toUInt8)) ∧ w' = w := Any.strings_IndexByte ixLays s c w
end Go.Proofs.Ytejmnkabmajebaa
/- A region that draws its order, in a round of a range over a function: where nothing in it defers it is walked as outside of the round. -/
namespace Go.Proofs.Ytejmnkabmajebaa
open Go.RowKit
set_option maxRecDepth 100000

theorem oper_round {F : Fence} (hro : F.round = none) {l n : Nat} {P : Program} {o : Oper} {a : Act} {w : World} {next : Act → World → Prop} {Q : Exit → Act → World → Prop} (hs : ∀ c, o.op ≠ .defer c)
    (h : o.wpIn F n P a w next Q) : o.wpIn (F.inRound l) n P a w next Q := by
  unfold Oper.wpIn at *
  refine ⟨h.1, ?_⟩
  have h2 := h.2
  rw [hro, Oper.semAt_none] at h2
  rw [Fence.inRound_round, Oper.semAt_some l _ _ hs]
  generalize (execOp a.eval o).run P w = r at *
  cases r with
  | ok x w' => cases x <;> exact h2
  | halt x w' => cases x <;> exact h2

def noDefer (ops : Array Oper) : Bool := ops.all fun o => match o.op with | .defer _ => false | _ => true
theorem noDefer_at {ops : Array Oper} (h : noDefer ops = true) {i : Nat} {o : Oper} (ho : ops[i]? = some o) : ∀ c, o.op ≠ .defer c := by
  intro c e
  unfold noDefer at h
  rw [Array.all_eq_true] at h
  obtain ⟨hi, rfl⟩ := Array.getElem?_eq_some_iff.1 ho
  have := h i hi
  rw [e] at this
  cases this

theorem opIn_round {F : Fence} (hro : F.round = none) {l n : Nat} {P : Program} {ops : Array Oper} {Q : Exit → Act → World → Prop} (hd : noDefer ops = true) {i : Nat} {K : Act → World → Prop} {a : Act} {w : World}
    (h : wpOpIn F n P ops Q i K a w) : wpOpIn (F.inRound l) n P ops Q i K a w := by
  unfold wpOpIn at *
  cases ho : ops[i]? with
  | none => simp only [ho] at h ⊢; exact h
  | some o =>
    simp only [ho] at h ⊢
    split
    · rename_i hw
      simp only [hw, if_true] at h
      exact oper_round hro (noDefer_at hd ho) h
    · rename_i hw
      simp only [hw] at h
      exact h

theorem anyIn_round {F : Fence} (hro : F.round = none) {l n : Nat} {P : Program} {md : Region.Mode} {ops : Array Oper} {Q : Exit → Act → World → Prop} (hd : noDefer ops = true) :
    ∀ (fuel : Nat) (listed : Array Bool) (a : Act) (w : World), wpAnyIn F n P md ops Q fuel listed a w → wpAnyIn (F.inRound l) n P md ops Q fuel listed a w := by
  intro fuel
  induction fuel with
  | zero => intro listed a w h; exact h
  | succ fuel ih =>
    intro listed a w h
    exact ⟨h.1, fun i hi => opIn_round hro hd (wpOpIn_mono (fun a w => ih _ a w) (h.2 i hi))⟩

/-- The region in a round, from the walk outside of it. -/
theorem region_round {F : Fence} (hro : F.round = none) {l n : Nat} {P : Program} {id : Nat} {ops : Array Oper} {Q : Exit → Act → World → Prop} {a : Act} {w : World} (hm : P.follows .mixedOrders = true) (hd : noDefer ops = true)
    (h : wpAnyIn F n P .any ops Q ops.size (Array.replicate ops.size false) a w.drew) : (Code.region id ops true).wpIn (F.inRound l) n P Q a w :=
  wpIn_region_any hm (anyIn_round hro hd _ _ _ _ h)
end Go.Proofs.Ytejmnkabmajebaa
/- Regions that draw their order and hold calls that make memory: one walk in the order of the text serves them all. -/
namespace Go.Proofs.Ytejmnkabmajebaa
open Go.RowKit
set_option maxRecDepth 100000
set_option linter.unusedVariables false

/-- A world behind V: of what was in V nothing has turned. -/
structure Later (V : World) where
  w : World
  b : Below V.heap.size V w
theorem later_calls {P : Program} {f : FuncId} {args : Array Value} {V : World} {x : Later V} {v : Value} (h : Calls P f args x.w fun e w' => e = .returned v ∧ Below x.w.heap.size x.w w') :
    Calls P f args x.w fun e w'' => e = .returned v ∧ ∃ y : Later V, w'' = y.w := h.mono fun _ w' h => ⟨h.1, ⟨w', bchain x.b h.2⟩, rfl⟩
theorem later_same {P : Program} {f : FuncId} {args : Array Value} {V : World} {x : Later V} {v : Value} (h : Calls P f args x.w fun e w' => e = .returned v ∧ w' = x.w) :
    Calls P f args x.w fun e w'' => e = .returned v ∧ ∃ y : Later V, w'' = y.w := h.mono fun _ w' h => ⟨h.1, x, h.2⟩
/-- A region that draws its order, whose operations read and whose callees may make memory: one walk in the text's order serves every order. -/
theorem region_later {P : Program} {id : Nat} {Q : Exit → Act → World → Prop} {a : Act} {w : World} {l : List Oper} (hm : P.follows .mixedOrders = true) (hB : Region.lexB .any l.toArray = true)
    (h : wpQuiet P l.toArray (fun w' => ∃ x : Later w, w' = x.w) (fun a' => ∀ w', (∃ x : Later w, w' = x.w) → Q .normal a' w') l a) : (Code.region id l.toArray true).wp P Q a w :=
  wp_region_quiet (C := fun w' => ∃ x : Later w, w' = x.w) hm hB ⟨⟨w.drewN 1, bo_drewN 1 (Below.refl _ _)⟩, rfl⟩ (by simpa using h)

end Go.Proofs.Ytejmnkabmajebaa
/- The library's strings.Clone at this program: it hands back the same bytes. Laid off the shelf's own contract. -/
namespace Go.Proofs.Ytejmnkabmajebaa
open Go.Shelf Go.RowKit
def cloneRen : Go.Shelf.Ren := ⟨fun | 316 => 74 | n => n, fun | 0 => 0 | 3 => 3 | 4 => 4 | 9 => 9 | 37 => 22 | 127 => 139 | 5 => 5 | n => n, fun | n => n⟩
theorem cloneLays : Go.Proofs.LaysM.n316 Try.prog cloneRen := {
  mixed := by kernel_rfl
  f316 := Try.func74.trans (congrArg some (by kernel_rfl))
  t0 := Try.underlying0
  a0 := Try.isAgg0
  z0 := Try.sizeOf0
  v0 := Try.zeroValue0
  t3 := Try.underlying3
  a3 := Try.isAgg3
  z3 := Try.sizeOf3
  v3 := Try.zeroValue3
  t4 := Try.underlying4
  a4 := Try.isAgg4
  z4 := Try.sizeOf4
  v4 := Try.zeroValue4
  t9 := Try.underlying9
  a9 := Try.isAgg9
  z9 := Try.sizeOf9
  v9 := Try.zeroValue9
  t37 := Try.underlying22
  a37 := Try.isAgg22
  z37 := Try.sizeOf22
  v37 := Try.zeroValue22
  t127 := Try.underlying139
  a127 := Try.isAgg139
  z127 := Try.sizeOf139
  v127 := Try.zeroValue139
  t5 := Try.underlying5
  a5 := Try.isAgg5
  z5 := Try.sizeOf5
  v5 := Try.zeroValue5
  i0 := by kernel_rfl
  i3 := by kernel_rfl
  i4 := by kernel_rfl
  i9 := by kernel_rfl
  i37 := by kernel_rfl
  i127 := by kernel_rfl
  i5 := by kernel_rfl }
theorem clone0 (s : ByteArray) (w : World) (hlim : s.size ≤ 281474976710656) :
    Calls Try.prog 74 #[.string s] w fun e w' => e = .returned (.string s) ∧ Below w.heap.size w w' := Any.stringslite_Clone cloneLays s w hlim

theorem clone (s : ByteArray) (w : World) (hlim : s.size ≤ 281474976710656) :
    Calls Try.prog 49 #[.string s] w fun e w' => e = .returned (.string s) ∧ Below w.heap.size w w' := by
  go_enter Try.func49, Try.ntmps49
  go_wp2_with fail
  refine (clone0 s _ hlim).mono ?_; rintro x w1 ⟨rfl, hb1⟩
  go_wp2_with fail
  go_ret
  exact ⟨rfl, hb1⟩
end Go.Proofs.Ytejmnkabmajebaa
/- A rule for a region whose operations come in whatever order: what holds of the operations that have come up, of the frame and of the world, is kept by each operation. -/
namespace Go.Proofs.Ytejmnkabmajebaa
open Go.RowKit
set_option maxRecDepth 100000
set_option linter.unusedSimpArgs false
set_option linter.unusedVariables false

section
variable {P : Program} {ops : Array Oper} {Q : Exit → Act → World → Prop} {md : Region.Mode}

/-- For what operation i waits. -/
def waitsFor (md : Region.Mode) (ops : Array Oper) (i : Nat) : List Nat :=
  match ops[i]? with
  | none => []
  | some o => (o.after.toList.filter (Region.binds md)).map (·.on)

theorem ready_waits {i j : Nat} {l : Array Bool} (h : i ∈ Region.ready md ops l) (hj : (waitsFor md ops i).contains j = true) : l.getD j false = true := by
  obtain ⟨_, o, ho, hall⟩ := mem_ready.1 h
  simp only [waitsFor, ho, List.contains_iff_mem, List.mem_map, List.mem_filter, Array.mem_toList_iff] at hj
  obtain ⟨e, ⟨he, hb⟩, rfl⟩ := hj
  exact hall e he hb

theorem ready_new {i : Nat} {l : Array Bool} (h : i ∈ Region.ready md ops l) (hl : l.size = ops.size) : l.getD i false = false ∧ i < l.size := by
  obtain ⟨h0, o, ho, _⟩ := mem_ready.1 h
  have hi : i < l.size := hl ▸ (Array.getElem?_eq_some_iff.1 ho).1
  simp [hi] at h0 ⊢
  exact h0

theorem ready_lt {i : Nat} {l : Array Bool} (h : i ∈ Region.ready md ops l) : i < ops.size := by
  obtain ⟨_, o, ho, _⟩ := mem_ready.1 h
  exact (Array.getElem?_eq_some_iff.1 ho).1

theorem set_is {i : Nat} {l : Array Bool} (h : i < l.size) : (l.setIfInBounds i true).getD i false = true := by simp [h]

/-- The last one has not come up where another one may still come up: it waits for all. -/
theorem not_last {i n : Nat} {l : Array Bool} (h : i ∈ Region.ready md ops l) (hl : l.size = ops.size) (hn : l.getD n false = true → ∀ j, j < n → l.getD j false = true) (hi : i < n) : l.getD n false = false := by
  cases hh : l.getD n false
  · rfl
  · have := hn hh i hi
    rw [(ready_new h hl).1] at this
    cases this

theorem last_kept {i n : Nat} {l : Array Bool} (h : i ∈ Region.ready md ops l) (hl : l.size = ops.size) (hn : l.getD n false = true → ∀ j, j < n → l.getD j false = true) (hi : i < n) : (l.setIfInBounds i true).getD n false = true → ∀ j, j < n → (l.setIfInBounds i true).getD j false = true := fun hh => by
  rw [getD_set_ne false (by omega), not_last h hl hn hi] at hh
  cases hh

theorem last_comes {n : Nat} {l : Array Bool} (h : n ∈ Region.ready md ops l) (hw : (List.range n).all (fun j => (waitsFor md ops n).contains j) = true) : (l.setIfInBounds n true).getD n false = true → ∀ j, j < n → (l.setIfInBounds n true).getD j false = true := fun _ j hj =>
  getD_set_true (ready_waits h (List.all_eq_true.1 hw j (List.mem_range.2 hj)))

theorem set_or {i j : Nat} {l : Array Bool} (h : (l.setIfInBounds i true).getD j false = true) (hne : i ≠ j) : l.getD j false = true := by
  rw [getD_set_ne false hne] at h; exact h

theorem set_same {i j : Nat} {l : Array Bool} (h : (l.setIfInBounds i true).getD j false = false) : l.getD j false = false := by
  cases hh : l.getD j false
  · rfl
  · rw [getD_set_true hh] at h; exact h

theorem none_left {l : Array Bool} (hl : l.size = ops.size) (h : l.toList.count false = 0) : Region.ready md ops l = [] := by
  apply List.eq_nil_iff_forall_not_mem.2
  intro i hi
  obtain ⟨h1, h2⟩ := ready_new hi hl
  simp [h2] at h1
  have := List.count_eq_zero.1 h
  exact this (by rw [← h1]; exact Array.getElem_mem_toList h2)

theorem wpAny_inv (I : Array Bool → Act → World → Prop)
    (hstep : ∀ l a w i, I l a w → l.size = ops.size → i ∈ Region.ready md ops l → wpOp P ops Q i (fun a' w' => I (l.setIfInBounds i true) a' w') a w)
    (hend : ∀ l a w, I l a w → l.size = ops.size → Region.ready md ops l = [] → Q .normal a w) :
    ∀ (fuel : Nat) (l : Array Bool) (a : Act) (w : World), l.size = ops.size → l.toList.count false ≤ fuel → I l a w → wpAny P md ops Q fuel l a w
  | 0, l, a, w, hl, hc, hI => by
    have h0 := none_left (md := md) hl (Nat.le_zero.1 hc)
    exact ⟨h0, hend l a w hI hl h0⟩
  | fuel + 1, l, a, w, hl, hc, hI => by
    refine ⟨hend l a w hI hl, fun i hi => wpOp_mono (fun a' w' h' => ?_) (hstep l a w i hI hl hi)⟩
    obtain ⟨h1, h2⟩ := ready_new hi hl
    simp [h2] at h1
    refine wpAny_inv I hstep hend fuel _ a' w' (by simpa using hl) ?_ h'
    have h3 : i < l.toList.length := by simpa using h2
    rw [Array.toList_setIfInBounds, List.count_set h3]
    simp [h1] at hc ⊢
    omega

/-- All have come up: none is left that waits for none but such. (For the end: 'all listed' by hand.) -/
theorem region_inv {id : Nat} {a : Act} {w : World} (hm : P.follows .mixedOrders = true) (I : Array Bool → Act → World → Prop)
    (h0 : I (Array.replicate ops.size false) a w.drew)
    (hstep : ∀ l a w i, I l a w → l.size = ops.size → i ∈ Region.ready .any ops l → wpOp P ops Q i (fun a' w' => I (l.setIfInBounds i true) a' w') a w)
    (hend : ∀ l a w, I l a w → l.size = ops.size → Region.ready .any ops l = [] → Q .normal a w) : (Code.region id ops true).wp P Q a w :=
  wp_region_any hm (wpAny_inv I hstep hend _ _ _ _ (by simp) (by simp [List.count_replicate]) h0)

/-- Where the waiting goes only backwards and nobody is ready, all have come up. -/
theorem all_listed {l : Array Bool} (hl : l.size = ops.size) (hw : (List.range ops.size).all (fun i => (waitsFor md ops i).all (· < i)) = true) (h : Region.ready md ops l = []) (i : Nat) (hi : i < ops.size) : l.getD i false = true := by
  induction i using Nat.strongRecOn with
  | _ i ih =>
    cases hh : l.getD i false
    case true => rfl
    exfalso
    have : i ∈ Region.ready md ops l := by
      rw [mem_ready]
      refine ⟨?_, ops[i], by simp [hi], fun e he hb => ?_⟩
      · have hi' : i < l.size := by omega
        simp [hi'] at hh ⊢; exact hh
      · have h1 := List.all_eq_true.1 (List.all_eq_true.1 hw i (List.mem_range.2 hi)) e.on (by
          simp only [waitsFor, Array.getElem?_eq_getElem hi, List.mem_map, List.mem_filter, Array.mem_toList_iff]
          exact ⟨e, ⟨he, hb⟩, rfl⟩)
        have h2 : e.on < i := by simpa using h1
        exact ih e.on h2 (by omega)
    rw [h] at this
    cases this
end
end Go.Proofs.Ytejmnkabmajebaa
