/- The cursor from which the laws draw their inputs: what its functions do to memory, and in what range they answer. -/
import Derived.Test.YtelcnojmfkoboaaDoorBase
import Derived.Handy
import Derived.Lib.SmallJoins
import Derived.WalkLawsBesides
namespace Go.Proofs.YtelcnojmfkoboaaDoor
open Go.RowKit
set_option maxRecDepth 100000
set_option linter.unusedSimpArgs false
set_option linter.unusedVariables false

/-- Of what was there nothing has turned but block g. -/
structure Moves (g : Nat) (w w' : World) : Prop where
  os : w'.os = w.os
  tape : w'.tape = w.tape
  output : w'.output = w.output
  size : w.heap.size ≤ w'.heap.size
  block : ∀ k, k < w.heap.size → k ≠ g → w'.heap[k]? = w.heap[k]?

theorem Moves.refl (g : Nat) (w : World) : Moves g w w := ⟨rfl, rfl, rfl, Nat.le_refl _, fun _ _ _ => rfl⟩
theorem Moves.trans {g : Nat} {a b c : World} (h : Moves g a b) (k : Moves g b c) : Moves g a c :=
  ⟨k.os.trans h.os, k.tape.trans h.tape, k.output.trans h.output, Nat.le_trans h.size k.size, fun i hi hg => (k.block i (Nat.lt_of_lt_of_le hi h.size) hg).trans (h.block i hi hg)⟩
theorem Moves.of_below {g : Nat} {a b : World} (h : Below a.heap.size a b) : Moves g a b := ⟨h.os, h.tape, h.output, h.size, fun k hk _ => h.block k hk⟩
theorem Moves.drewN {g : Nat} {a b : World} (n : Nat) (h : Moves g a b) : Moves g a (b.drewN n) := ⟨h.os, h.tape, h.output, h.size, h.block⟩
theorem Moves.drew {g : Nat} {a b : World} (h : Moves g a b) : Moves g a b.drew := ⟨h.os, h.tape, h.output, h.size, h.block⟩
theorem Moves.alloc {g : Nat} {a b : World} (h : Moves g a b) (o : Obj) : Moves g a (b.alloc o) := h.trans (Moves.of_below (Joins.below_alloc1 b o))
theorem Moves.set {g : Nat} {a b : World} (h : Moves g a b) (o : Nat) (v : Value) : Moves g a (b.setCell ⟨g, o, none⟩ v) :=
  h.trans ⟨rfl, rfl, rfl, by simp, fun k _ hg => Below.heap_setCell b ⟨g, o, none⟩ v k hg⟩
/-- A store into a block that the call itself made. -/
theorem Moves.setNew {g : Nat} {a b : World} (h : Moves g a b) (p : Addr) (hp : a.heap.size ≤ p.block) (v : Value) : Moves g a (b.setCell p v) :=
  ⟨h.os, h.tape, h.output, by simpa using h.size, fun k hk hg => (Below.heap_setCell b p v k (by omega)).trans (h.block k hk hg)⟩
theorem Moves.below {g B : Nat} {a b : World} (h : Moves g a b) (h1 : B ≤ g) (h2 : B ≤ a.heap.size) : Below B a b := ⟨h.os, h.tape, h.output, h.size, fun k hk => h.block k (by omega) (by omega)⟩
theorem Moves.cell {g : Nat} {a b : World} (h : Moves g a b) (k o : Nat) (h1 : k < a.heap.size) (h2 : k ≠ g) : b.cell? ⟨k, o, none⟩ = a.cell? ⟨k, o, none⟩ := World.cell?_of_block (w := a) (h.block k h1 h2)
theorem Moves.frozen {g : Nat} {a b : World} (h : Moves g a b) (k o : Nat) (h1 : k < a.heap.size) (h2 : k ≠ g) : b.frozen? ⟨k, o, none⟩ = a.frozen? ⟨k, o, none⟩ := World.frozen?_of_block (w := a) (h.block k h1 h2)

/-- The bytes of the draw, in blocks below B. -/
def CodeAt (w : World) (a : Option Addr) (len B : Nat) : Prop := ∀ j, j < len → ∃ (b o : Nat) (z : Int), a = some ⟨b, o, none⟩ ∧ b < B ∧ 0 ≤ z ∧ z ≤ 255 ∧ w.cell? ⟨b, o + j, none⟩ = some (.int .u8 z)

theorem CodeAt.kept {w w' : World} {a : Option Addr} {len B : Nat} (h : CodeAt w a len B) (hb : Below B w w') : CodeAt w' a len B := fun j hj => by
  obtain ⟨b, o, z, h1, h2, h3, h4, h5⟩ := h j hj
  exact ⟨b, o, z, h1, h2, h3, h4, by rw [hb.cell (p := ⟨b, o + j, none⟩) h2]; exact h5⟩

/-- A cursor at block g over bytes in blocks below B. -/
def Cur (w : World) (g B : Nat) : Prop := B ≤ g ∧ ∃ (a : Option Addr) (len cap i : Nat) (h : Int), len ≤ 4096 ∧ i ≤ len ∧ CodeAt w a len B ∧ w.heap[g]? = some (.cells #[.slice a len cap, .int .i64 i, .int .i64 h] 70 (0, 0))

theorem Cur.lt {w : World} {g B : Nat} (h : Cur w g B) : g < w.heap.size := by
  obtain ⟨_, a, len, cap, i, hh, _, _, _, hg⟩ := h
  exact (Array.getElem?_eq_some_iff.1 hg).1

/-- Whatever leaves the cursor's block and what lies below B as it is keeps the cursor. -/
theorem Cur.kept {w w' : World} {g B : Nat} (h : Cur w g B) (hb : Below (g + 1) w w') : Cur w' g B := by
  obtain ⟨h0, a, len, cap, i, hh, h1, h2, h3, hg⟩ := h
  exact ⟨h0, a, len, cap, i, hh, h1, h2, h3.kept (hb.mono (by omega)), by rw [hb.block g (by omega)]; exact hg⟩


theorem Cur.drewN {w : World} {g B : Nat} (h : Cur w g B) (q : Nat) : Cur (w.drewN q) g B := h.kept ⟨rfl, rfl, rfl, Nat.le_refl _, fun _ _ => rfl⟩
theorem Cur.drew {w : World} {g B : Nat} (h : Cur w g B) : Cur w.drew g B := h.kept ⟨rfl, rfl, rfl, Nat.le_refl _, fun _ _ => rfl⟩
theorem Cur.alloc {w : World} {g B : Nat} (h : Cur w g B) (o : Obj) : Cur (w.alloc o) g B := h.kept ((Joins.below_alloc1 w o).mono h.lt)
theorem Cur.set {w : World} {g B : Nat} (h : Cur w g B) (p : Addr) (v : Value) (hp : g < p.block) : Cur (w.setCell p v) g B :=
  h.kept ⟨rfl, rfl, rfl, by simp, fun k hk => Below.heap_setCell w p v k (by omega)⟩
theorem Cur.below {w w' : World} {g B : Nat} (h : Cur w g B) (hb : Below w.heap.size w w') : Cur w' g B := h.kept (hb.mono h.lt)

theorem Cur.step0 {w : World} {g B : Nat} (h0 : B ≤ g) {a : Option Addr} {len cap i : Nat} {h : Int} (h1 : len ≤ 4096) (h2 : i ≤ len) (h3 : CodeAt w a len B)
    (hg : w.heap[g]? = some (.cells #[.slice a len cap, .int .i64 i, .int .i64 h] 70 (0, 0))) (H : Int) (q : Nat) :
    Cur ((w.setCell ⟨g, 2, none⟩ (.int .i64 H)).drewN q) g B ∧ Moves g w ((w.setCell ⟨g, 2, none⟩ (.int .i64 H)).drewN q) := by
  have m := ((Moves.refl g w).set 2 (.int .i64 H)).drewN q
  refine ⟨⟨h0, a, len, cap, i, H, h1, h2, h3.kept (m.below h0 (by have := (Array.getElem?_eq_some_iff.1 hg).1; omega)), ?_⟩, m⟩
  have := Joins.block_setCell (i := 2) hg (.int .i64 H)
  simpa using this

theorem Cur.step1 {w : World} {g B : Nat} (h0 : B ≤ g) {a : Option Addr} {len cap i : Nat} {h : Int} (h1 : len ≤ 4096) (h3 : CodeAt w a len B)
    (hg : w.heap[g]? = some (.cells #[.slice a len cap, .int .i64 i, .int .i64 h] 70 (0, 0))) (H : Int) (q i' : Nat) (z : Int) (hz : z = i') (hi : i' ≤ len) :
    Cur (((w.setCell ⟨g, 2, none⟩ (.int .i64 H)).drewN q).setCell ⟨g, 1, none⟩ (.int .i64 z)) g B ∧ Moves g w (((w.setCell ⟨g, 2, none⟩ (.int .i64 H)).drewN q).setCell ⟨g, 1, none⟩ (.int .i64 z)) := by
  subst hz
  have m := (((Moves.refl g w).set 2 (.int .i64 H)).drewN q).set 1 (.int .i64 (i' : Int))
  refine ⟨⟨h0, a, len, cap, i', H, h1, hi, h3.kept (m.below h0 (by have := (Array.getElem?_eq_some_iff.1 hg).1; omega)), ?_⟩, m⟩
  have h5 : ((w.setCell ⟨g, 2, none⟩ (.int .i64 H)).drewN q).heap[g]? = some (.cells #[.slice a len cap, .int .i64 i, .int .i64 H] 70 (0, 0)) := by
    have := Joins.block_setCell (i := 2) hg (.int .i64 H)
    simpa using this
  have := Joins.block_setCell (i := 1) h5 (.int .i64 (i' : Int))
  simpa using this

theorem and255 (n : Int) : bits .and .i64 n 255 = n % 256 := by
  have h255 : (BitVec.ofInt 64 255).toNat = 2 ^ 8 - 1 := by decide
  have key : (BitVec.ofInt 64 n &&& BitVec.ofInt 64 255).toNat = (n % ((2 ^ 64 : Nat) : Int)).toNat % 2 ^ 8 := by
    rw [BitVec.toNat_and, BitVec.toNat_ofInt, h255, Nat.and_two_pow_sub_one_eq_mod]
  show IntKind.i64.wrap ((BitVec.ofInt 64 n &&& BitVec.ofInt 64 255).toNat : Nat) = n % 256
  rw [key, IntKind.wrap_i64]
  omega

theorem and255_lo (n : Int) : 0 ≤ bits .and .i64 n 255 := by rw [and255]; omega
theorem and255_hi (n : Int) : bits .and .i64 n 255 ≤ 255 := by rw [and255]; omega

set_option maxHeartbeats 400000 in
theorem byte1 (g B : Nat) (w : World) (hc : Cur w g B) :
    Calls Tryd.prog 44 #[.pointer (some ⟨g, 0, none⟩)] w fun e w' => ∃ x : Int, 0 ≤ x ∧ x ≤ 255 ∧ e = .returned (.int .i64 x) ∧ Cur w' g B ∧ Moves g w w' := by
  obtain ⟨h0, a, len, cap, i, h, h1, h2, h3, hg⟩ := hc
  have c0 := Joins.cell_of_block hg 0
  have c1 := Joins.cell_of_block hg 1
  have c2 := Joins.cell_of_block hg 2
  have f1 := Joins.unfrozen_of_block hg 1
  have f2 := Joins.unfrozen_of_block hg 2
  simp at c0 c1 c2
  by_cases hlt : i < len
  · obtain ⟨b, o, z, rfl, hb, z0, z1, hz⟩ := h3 i hlt
    have hne : b ≠ g := by omega
    go_enter Tryd.func44, Tryd.ntmps44
    go_wp2_with fail
    go_quiet (fail)
    go_wp2_with fail
    go_quiet (fail)
    go_wp2_with fail
    go_quiet (fail)
    go_wp2_with fail
    go_ret
    exact ⟨_, and255_lo _, and255_hi _, rfl, Cur.step1 h0 h1 h3 hg _ _ (i + 1) _ (by simp) (by omega)⟩
  · have hge : ¬ ((i : Int) < (len : Int)) := by omega
    go_enter Tryd.func44, Tryd.ntmps44
    go_wp2_with fail
    go_quiet (fail)
    go_wp2_with fail
    go_quiet (fail)
    go_wp2_with fail
    go_ret
    exact ⟨_, and255_lo _, and255_hi _, rfl, (Cur.step0 h0 h1 h2 h3 hg _ _).1.drewN _, (Cur.step0 h0 h1 h2 h3 hg _ _).2.drewN _⟩

theorem emod_lt_of {x n : Int} (h0 : 0 ≤ x) (hn : 0 < n) : 0 ≤ x % n ∧ x % n < n := ⟨Int.emod_nonneg _ (by omega), Int.emod_lt_of_pos _ hn⟩

theorem below1 (g B : Nat) (n : Int) (w : World) (hc : Cur w g B) (hn : n ≤ 1000000000) :
    Calls Tryd.prog 30 #[.pointer (some ⟨g, 0, none⟩), .int .i64 n] w fun e w' => ∃ x : Int, 0 ≤ x ∧ (0 < n → x < n) ∧ (n ≤ 0 → x = 0) ∧ e = .returned (.int .i64 x) ∧ Cur w' g B ∧ Moves g w w' := by
  by_cases h0 : n ≤ 0
  · go_enter Tryd.func30, Tryd.ntmps30
    go_wp2_with fail
    go_ret
    exact ⟨0, by omega, by omega, by omega, rfl, hc, Moves.refl _ _⟩
  · by_cases h1 : n ≤ 256
    · go_enter Tryd.func30, Tryd.ntmps30
      go_wp2_with fail
      refine (byte1 g B _ hc).mono ?_; rintro e w1 ⟨x, x0, x1, rfl, hc1, hm1⟩
      go_wp2_with fail
      go_ret
      exact ⟨_, (emod_lt_of x0 (by omega)).1, fun _ => (emod_lt_of x0 (by omega)).2, by omega, rfl, hc1, hm1⟩
    · go_enter Tryd.func30, Tryd.ntmps30
      go_wp2_with fail
      refine (byte1 g B _ hc).mono ?_; rintro e w1 ⟨x, x0, x1, rfl, hc1, hm1⟩
      go_wp2_with fail
      refine (byte1 g B _ hc1).mono ?_; rintro e w2 ⟨y, y0, y1, rfl, hc2, hm2⟩
      go_wp2_with fail
      refine (byte1 g B _ hc2).mono ?_; rintro e w3 ⟨z, z0, z1, rfl, hc3, hm3⟩
      go_wp2_with fail
      refine (byte1 g B _ hc3).mono ?_; rintro e w4 ⟨v, v0, v1, rfl, hc4, hm4⟩
      go_wp2_with fail
      go_ret
      exact ⟨_, (emod_lt_of (by omega) (by omega)).1, fun _ => (emod_lt_of (by omega) (by omega)).2, by omega, rfl, hc4, ((hm1.trans hm2).trans hm3).trans hm4⟩

theorem once1 (g B : Nat) (n : Int) (w : World) (hc : Cur w g B) (hn : n ≤ 1000000000) :
    Calls Tryd.prog 32 #[.pointer (some ⟨g, 0, none⟩), .int .i64 n] w fun e w' => ∃ v : Bool, e = .returned (.bool v) ∧ Cur w' g B ∧ Moves g w w' := by
  go_enter Tryd.func32, Tryd.ntmps32
  go_wp2_with fail
  refine (below1 g B n _ hc hn).mono ?_; rintro e w1 ⟨x, x0, x1, x2, rfl, hc1, hm1⟩
  go_wp2_with fail
  go_ret
  exact ⟨_, rfl, hc1, hm1⟩

theorem Cur.new (w : World) (a : Option Addr) (len cap : Nat) (H : Int) (hl : len ≤ 4096) (hc : CodeAt w a len w.heap.size) :
    Cur (w.alloc (.cells #[.slice a len cap, .int .i64 0, .int .i64 H] 70)) w.heap.size w.heap.size :=
  ⟨Nat.le_refl _, a, len, cap, 0, H, hl, Nat.zero_le _, hc.kept (Joins.below_alloc1 w _), heap_alloc_new w _⟩

set_option maxHeartbeats 400000 in
theorem new1 (a : Option Addr) (len cap : Nat) (w : World) (hl : len ≤ 4096) (hcode : CodeAt w a len w.heap.size) :
    Calls Tryd.prog 29 #[.slice a len cap] w fun e w' => ∃ g : Nat, e = .returned (.pointer (some ⟨g, 0, none⟩)) ∧ w.heap.size ≤ g ∧ Cur w' g w.heap.size ∧ Below w.heap.size w w' := by
  go_enter Tryd.func29, Tryd.ntmps29
  go_wp2_with fail
  go_loop [3, 4] (fun h i => ∃ (k : Nat) (H : Int), k ≤ len ∧ i = .int .i64 k ∧ h = .int .i64 H) (fun _ i => len - (intOf i).toNat)
  case atStart => exact ⟨0, _, Nat.zero_le _, rfl, rfl⟩
  case round =>
    obtain ⟨k, H, hk, rfl, rfl⟩ := hrel
    by_cases hlt : k < len
    · obtain ⟨b, o, z, rfl, hb, z0, z1, hz⟩ := hcode k hlt
      have hz' : w.cell? ⟨b, o + (k : Int).toNat, none⟩ = some (.int .u8 z) := by simpa using hz
      go_wp2_with fail
      go_round
      case rel => exact ⟨k + 1, _, by omega, by go_num, rfl⟩
      case measure => simp [intOf]; omega
    · go_wp2_with fail
      go_ret
      exact ⟨_, rfl, Nat.le_refl _, Cur.new w a len cap _ hl hcode, Joins.below_alloc1 w _⟩
end Go.Proofs.YtelcnojmfkoboaaDoor
