/- Laws on rows of bytes: make, copy from a string that may be too long, and what string(..) of such a row reads. -/
import Derived.Test.YthkjjnnmnacgcaaBase
import Derived.Handy
import Derived.Lib.SlBytesRow
import Derived.Lib.ConvBytes
import Derived.Lib.BufferWrite
import Derived.Laws.MakeOwn
namespace Go.Proofs.Ythkjjnnmnacgcaa
open Go.RowKit
set_option maxRecDepth 100000
set_option linter.unusedSimpArgs false
set_option linter.unusedVariables false

/-- The bytes of a string in a new row, and what was there stays. -/
theorem bytes_new1 (W : World) (e : TypeId) (b : ByteArray) : Below W.heap.size W (Lib.bytesWorld W e b) ∧ (Lib.bytesWorld W e b).heap.size = W.heap.size + 1 ∧ Lib.Bytes (Lib.bytesWorld W e b) W.heap.size 0 b := by
  refine ⟨⟨rfl, rfl, rfl, by rw [Lib.bytesWorld_size]; omega, fun k hk => Lib.bytesWorld_at_old W e b k hk⟩, Lib.bytesWorld_size W e b, ?_⟩
  intro i hi
  rw [Nat.zero_add, Lib.bytesWorld_cell W e b i hi]
  have h2 : i < b.data.toList.length := by simpa using hi
  rw [List.getD_eq_getElem?_getD, List.getElem?_eq_getElem h2]
  rfl

theorem bytes_set {W : World} {g o : Nat} {s : ByteArray} (h : Lib.Bytes W g o s) (a : Addr) (v : Value) (ha : a.block ≠ g) : Lib.Bytes (W.setCell a v) g o s := fun i hi => by
  rw [World.cell?_of_block (w := W) (Below.heap_setCell W a v g (fun h => ha h.symm))]
  exact h i hi
theorem bytes_drew {W : World} {g o : Nat} {s : ByteArray} (h : Lib.Bytes W g o s) : Lib.Bytes W.drew g o s := fun i hi => h i hi

theorem extract_size (s : ByteArray) (n : Nat) (h : n ≤ s.size) : (s.extract 0 n).size = n := by
  rw [ByteArray.size_extract]; omega

/-- 'copy(dst, s)' from a string: as many of its first bytes as dst is long. -/
theorem copy_cut (w : World) (g o dLen dCap n : Nat) (s : ByteArray) (cur : Array Value) (t : TypeId)
    (hg : w.heap[g]? = some (.cells cur t (0, 0))) (hn : Nat.min s.size dLen = n) (hfit : o + n ≤ cur.size) :
    (Builtin.copy_ #[22, 9] 3 #[.slice (some ⟨g, o, none⟩) dLen dCap, .string s]).run Try.prog w =
      .ok (goInt n) (w.setRow g (cur.toList.take o ++ Lib.byteCells (s.extract 0 n).data.toList ++ cur.toList.drop (o + n)).toArray) := by
  have hns : n ≤ s.size := by rw [← hn]; exact Nat.min_le_left _ _
  have hnd : n ≤ dLen := by rw [← hn]; exact Nat.min_le_right _ _
  have hsz := extract_size s n hns
  have h := Lib.run_copy_row_string (P := Try.prog) w 22 9 3 5 g o dLen dCap (s.extract 0 n) cur t Try.underlying22 (by kernel_rfl) hg (by omega) (by omega)
  rw [hsz] at h
  rw [← h]
  have e1 : (s.extract 0 n).extract 0 n = s.extract 0 n := by rw [ByteArray.extract_extract]; simp
  have hm : Nat.min n dLen = n := Nat.min_eq_left hnd
  simp only [Builtin.copy_, Builtin.lenOf, Builtin.firstCells, hsz]
  simp [run_underlying Try.underlying22, hn, hm, e1]
  rw [show min n (min s.size (min dLen n)) = n by omega]

/-- What a row's cells say as bytes. -/
theorem bytes_row {W : World} {g : Nat} {cur : Array Value} {t : TypeId} {fr : Nat × Nat} (hg : W.heap[g]? = some (.cells cur t fr)) (B : ByteArray) (hp : cur.toList.take B.size = Lib.byteCells B.data.toList) : Lib.Bytes W g 0 B := fun i hi => by
  rw [Nat.zero_add]
  have h1 : W.cell? ⟨g, i, none⟩ = cur[i]? := by simp [World.cell?, hg]
  rw [h1, ← Array.getElem?_toList]
  have h2 : cur.toList[i]? = (cur.toList.take B.size)[i]? := by rw [List.getElem?_take_of_lt hi]
  have h3 : i < B.data.toList.length := by simpa using hi
  rw [h2, hp, Lib.byteCells, List.getElem?_map, List.getElem?_eq_getElem h3]
  rfl

theorem make_bytes (R : Nat) (h : R ≤ 281474976710656) : ∃ M : Array Value, M.size = R ∧ ∀ X : World, (Instr.makeSlice 22 (.int .i64 (R : Int)) (.int .i64 (R : Int))).run Try.prog X = .ok (.slice (some ⟨X.heap.size, 0, none⟩) R R) (X.alloc (.cells M 5)) := by
  obtain ⟨i0, hi, hz0, hz1, hz2⟩ := info_parts (P := Try.prog) (e := 5) (z := .int .u8 0) (size := 1) (bytes := 1) (by kernel_rfl)
  refine ⟨madeCells (Value.int .u8 0).cells (R * 1), by rw [size_madeCells, Nat.mul_one], fun X => ?_⟩
  have h := run_make (P := Try.prog) X 22 5 i0 (.int .u8 0) Try.underlying22 hi hz0 .i64 .i64 (R : Int) (R : Int) (by omega) (by omega) (by rw [hz2]; omega) (by omega)
  rw [hz1] at h
  simpa using h

theorem setRow_below (W : World) (g : Nat) (cs : Array Value) : Below g W (W.setRow g cs) ∧ (W.setRow g cs).heap.size = W.heap.size := by
  refine ⟨⟨rfl, rfl, rfl, by simp [World.setRow], fun k hk => setRow_other _ _ _ _ (by omega)⟩, by simp [World.setRow]⟩

/-- make, copy, copy: the three steps of a push, and the bytes that the row then holds. -/
theorem push_rows (W : World) (R : Nat) (b s : ByteArray) (hb : b.size < R) (hR : R ≤ 2000) (n : Nat) (hn : Nat.min s.size (R - b.size) = n) : ∃ W1 W2 W3 : World,
    (Instr.makeSlice 22 (.int .i64 (R : Int)) (.int .i64 (R : Int))).run Try.prog W = .ok (.slice (some ⟨W.heap.size, 0, none⟩) R R) W1 ∧
    (Builtin.copy_ #[22, 9] 3 #[.slice (some ⟨W.heap.size, 0, none⟩) R R, .string b]).run Try.prog W1 = .ok (.int .i64 (b.size : Int)) W2 ∧
    (Builtin.copy_ #[22, 9] 3 #[.slice (some ⟨W.heap.size, b.size, none⟩) (R - b.size) (R - b.size), .string s]).run Try.prog W2 = .ok (.int .i64 (n : Int)) W3 ∧
    Below W.heap.size W W1 ∧ Below W.heap.size W W2 ∧ Below W.heap.size W W3 ∧ W3.heap.size = W.heap.size + 1 ∧ Lib.Bytes W3 W.heap.size 0 (b ++ s.extract 0 n) := by
  obtain ⟨M, hM, hmk⟩ := make_bytes R (by omega)
  have hns : n ≤ s.size := by rw [← hn]; exact Nat.min_le_left _ _
  have hnd : n ≤ R - b.size := by rw [← hn]; exact Nat.min_le_right _ _
  have hg1 : (W.alloc (.cells M 5)).heap[W.heap.size]? = some (.cells M 5 (0, 0)) := heap_alloc_new W _
  have hc1 := copy_cut (W.alloc (.cells M 5)) W.heap.size 0 R R b.size b M 5 hg1 (Nat.min_eq_left (by omega)) (by omega)
  have hY1 : ∃ Y, Y = (M.toList.take 0 ++ Lib.byteCells (b.extract 0 b.size).data.toList ++ M.toList.drop (0 + b.size)).toArray := ⟨_, rfl⟩
  obtain ⟨Y, hY⟩ := hY1
  rw [← hY] at hc1
  have hbe : b.extract 0 b.size = b := by simp
  have hYl : Y.toList = Lib.byteCells b.data.toList ++ M.toList.drop b.size := by rw [hY, hbe]; simp
  have hYs : Y.size = R := by
    have h5 : Y.toList.length = b.size + (R - b.size) := by
      rw [hYl, List.length_append, Lib.byteCells_length, List.length_drop]
      simp [hM]
    have h6 : Y.toList.length = Y.size := by simp
    omega
  have hg2 : ((W.alloc (.cells M 5)).setRow W.heap.size Y).heap[W.heap.size]? = some (.cells Y 5 (0, 0)) := setRow_heap _ _ M _ _ _ hg1
  have hc2 := copy_cut ((W.alloc (.cells M 5)).setRow W.heap.size Y) W.heap.size b.size (R - b.size) (R - b.size) n s Y 5 hg2 hn (by omega)
  obtain ⟨V, hV⟩ : ∃ V, V = (Y.toList.take b.size ++ Lib.byteCells (s.extract 0 n).data.toList ++ Y.toList.drop (b.size + n)).toArray := ⟨_, rfl⟩
  rw [← hV] at hc2
  have hg3 : (((W.alloc (.cells M 5)).setRow W.heap.size Y).setRow W.heap.size V).heap[W.heap.size]? = some (.cells V 5 (0, 0)) := setRow_heap _ _ Y _ _ _ hg2
  have b1 : Below W.heap.size W (W.alloc (.cells M 5)) := (Below.refl _ W).alloc (Nat.le_refl _) _
  have b2 := b1.trans (setRow_below (W.alloc (.cells M 5)) W.heap.size Y).1
  have b3 := b2.trans (setRow_below ((W.alloc (.cells M 5)).setRow W.heap.size Y) W.heap.size V).1
  refine ⟨_, _, _, hmk W, hc1, hc2, b1, b2, b3, ?_, ?_⟩
  · rw [(setRow_below _ _ _).2, (setRow_below _ _ _).2]; simp
  · refine bytes_row hg3 _ ?_
    have hbl : (Lib.byteCells b.data.toList).length = b.size := by rw [Lib.byteCells_length]; simp
    have htk : Y.toList.take b.size = Lib.byteCells b.data.toList := by rw [hYl, List.take_left' hbl]
    have hal : (b ++ s.extract 0 n).data.toList = b.data.toList ++ (s.extract 0 n).data.toList := by simp
    have hsz : (b ++ s.extract 0 n).size = b.size + n := by rw [ByteArray.size_append, extract_size s n hns]
    rw [hV, htk, hsz, hal, Lib.byteCells_append, List.toList_toArray, List.take_left']
    rw [List.length_append, hbl, Lib.byteCells_length]
    have := extract_size s n hns
    have h4 : (s.extract 0 n).data.toList.length = (s.extract 0 n).size := by simp
    omega

theorem push_full (W : World) (R : Nat) (b s : ByteArray) (hb : b.size = R) (hR : R ≤ 2000) : ∃ W1 W2 : World,
    (Instr.makeSlice 22 (.int .i64 (R : Int)) (.int .i64 (R : Int))).run Try.prog W = .ok (.slice (some ⟨W.heap.size, 0, none⟩) R R) W1 ∧
    (Builtin.copy_ #[22, 9] 3 #[.slice (some ⟨W.heap.size, 0, none⟩) R R, .string b]).run Try.prog W1 = .ok (.int .i64 (b.size : Int)) W2 ∧
    (Builtin.copy_ #[22, 9] 3 #[.slice (some ⟨W.heap.size, 0, none⟩) 0 0, .string s]).run Try.prog W2 = .ok (.int .i64 0) W2 ∧
    Below W.heap.size W W1 ∧ Below W.heap.size W W2 ∧ W2.heap.size = W.heap.size + 1 ∧ Lib.Bytes W2 W.heap.size 0 b := by
  obtain ⟨M, hM, hmk⟩ := make_bytes R (by omega)
  have hg1 : (W.alloc (.cells M 5)).heap[W.heap.size]? = some (.cells M 5 (0, 0)) := heap_alloc_new W _
  have hc1 := copy_cut (W.alloc (.cells M 5)) W.heap.size 0 R R b.size b M 5 hg1 (Nat.min_eq_left (by omega)) (by omega)
  obtain ⟨Y, hY⟩ : ∃ Y, Y = (M.toList.take 0 ++ Lib.byteCells (b.extract 0 b.size).data.toList ++ M.toList.drop (0 + b.size)).toArray := ⟨_, rfl⟩
  rw [← hY] at hc1
  have hbe : b.extract 0 b.size = b := by simp
  have hYl : Y.toList = Lib.byteCells b.data.toList ++ M.toList.drop b.size := by rw [hY, hbe]; simp
  have hg2 : ((W.alloc (.cells M 5)).setRow W.heap.size Y).heap[W.heap.size]? = some (.cells Y 5 (0, 0)) := setRow_heap _ _ M _ _ _ hg1
  have hc2 := copy_cut ((W.alloc (.cells M 5)).setRow W.heap.size Y) W.heap.size 0 0 0 0 s Y 5 hg2 (Nat.min_zero _) (by omega)
  have hsame : ((W.alloc (.cells M 5)).setRow W.heap.size Y).setRow W.heap.size (Y.toList.take 0 ++ Lib.byteCells (s.extract 0 0).data.toList ++ Y.toList.drop (0 + 0)).toArray = (W.alloc (.cells M 5)).setRow W.heap.size Y := by
    have e0 : (Y.toList.take 0 ++ Lib.byteCells (s.extract 0 0).data.toList ++ Y.toList.drop (0 + 0)).toArray = Y := by simp [Lib.byteCells]
    rw [e0]
    unfold World.setRow
    congr 1
    apply Array.ext_getElem?
    intro i
    simp only [Array.getElem?_modify]
    split
    · cases h : (W.alloc (.cells M 5)).heap[i]? with
      | none => simp
      | some o => cases o <;> simp
    · rfl
  rw [hsame] at hc2
  have b1 : Below W.heap.size W (W.alloc (.cells M 5)) := (Below.refl _ W).alloc (Nat.le_refl _) _
  have b2 := b1.trans (setRow_below (W.alloc (.cells M 5)) W.heap.size Y).1
  refine ⟨_, _, hmk W, hc1, hc2, b1, b2, ?_, ?_⟩
  · rw [(setRow_below _ _ _).2]; simp
  · refine bytes_row hg2 _ ?_
    have hbl : (Lib.byteCells b.data.toList).length = b.size := by rw [Lib.byteCells_length]; simp
    rw [hYl, List.take_left' hbl]
end Go.Proofs.Ythkjjnnmnacgcaa
