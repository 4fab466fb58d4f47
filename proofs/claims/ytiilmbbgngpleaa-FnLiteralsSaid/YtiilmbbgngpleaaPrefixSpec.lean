/- Chapter 3's model: the bytes that it writes. -/
import Derived.Test.YtiilmbbgngpleaaPrefixMath
import Derived.RangeFuncBox
import Derived.Maps.AppendAt
import Derived.Handy
import Derived.Lib.SmallJoins
import Derived.Laws.AppendOwn
import Derived.Laws.IdiomStrings
import Derived.Lib.BufferRead
namespace Go.Proofs.Ytiilmbbgngpleaa
open Go.RowKit
set_option linter.unusedSimpArgs false
set_option linter.unusedVariables false

/-- A text out of numbers. -/
def strOf (l : List Int) : ByteArray := ⟨(l.map fun z => UInt8.ofNat z.toNat).toArray⟩
theorem strOf_size (l : List Int) : (strOf l).size = l.length := by simp [strOf, ByteArray.size]
theorem u8_of {z : Int} (h0 : 0 ≤ z) (h1 : z ≤ 255) : ((UInt8.ofNat z.toNat).toNat : Int) = z := by simp [UInt8.toNat_ofNat']; omega

theorem row_string {W : World} {base n : Nat} {v : Value} {l : List Int} (hown : W.ownsRow base 5 1 v n (l.map (Value.int .u8))) (hx : ∀ x ∈ l, 0 ≤ x ∧ x ≤ 255) :
    (convert 22 9 v).run Try.prog W = .ok (.string (strOf l)) W := by
  obtain ⟨h1, h2⟩ := hown
  rcases h2 with ⟨rfl, rfl⟩ | ⟨b, cap, cur, rfl, e2, e3, e4, e5, e6, e7⟩
  · have : l = [] := by simpa using h1
    subst this
    simpa [strOf] using Lib.run_convert_nil_bytes (P := Try.prog) W 22 9 5 0 Try.underlying22 Try.underlying5 Try.underlying9
  · have hn : (l.map fun z => UInt8.ofNat z.toNat).length = n := by simp at h1 ⊢; omega
    have := run_convert_bytes_back (P := Try.prog) W 22 9 5 ⟨b, 0, none⟩ cap (l.map fun z => UInt8.ofNat z.toNat) Try.underlying22 Try.underlying5 Try.underlying9 (fun j hjl => by
      have hj : j < l.length := by simpa using hjl
      have h6 : W.cell? ((⟨b, 0, none⟩ : Addr).add j) = cur[j]? := by by_cases hj0 : j = 0 <;> simp [Addr.add, World.cell?, e3, hj0]
      have h7 : cur.toList[j]? = some (Value.int .u8 l[j]) := by
        have h8 : (cur.toList.take n)[j]? = (l.map (Value.int .u8))[j]? := by rw [← e7]; simp
        rw [List.getElem?_take_of_lt (by simp at h1; omega)] at h8
        rw [h8]; simp [hj]
      rw [h6, ← Array.getElem?_toList, h7]
      have := hx l[j] (List.getElem_mem hj)
      rw [List.getElem_map, u8_of this.1 this.2])
    rw [hn] at this
    exact this

theorem ownsRow_one (w : World) (e : TypeId) (v : Value) : (w.alloc (.cells #[v] e)).ownsRow w.heap.size e 1 (.slice (some ⟨w.heap.size, 0, none⟩) 1 1) 1 [v] :=
  ⟨by simp, .inr ⟨w.heap.size, 1, #[v], rfl, Nat.le_refl _, World.alloc_heap_new w _, Nat.le_refl _, by simp [maxLen], by simp, by simp⟩⟩

/-- The first of a row with something added. -/
def addHead (h : Int) : List Int → List Int
  | [] => []
  | x :: xs => (h + x) :: xs
theorem addHead_len (h : Int) (l : List Int) : (addHead h l).length = l.length := by cases l <;> rfl

set_option maxHeartbeats 2000000 in
theorem specL3 (n b h : Int) (w : World) (hn0 : 0 ≤ n) (hn : n ≤ 268435456) (h1 : 1 ≤ b) (h8 : b ≤ 8) (hh : 0 ≤ h) (hf : h + (pw b - 1) ≤ 255) :
    Calls Try.prog 35 #[.int .i64 n, .int .i64 b, .int .i64 h] w fun e w' => e = .returned (.string (strOf (addHead h (bytesOf n (pw b - 1))))) ∧ Below w.heap.size w w' := by
  obtain ⟨hp1, hp2⟩ := pw_lo h1 h8
  have hpw : (2 : Int) ^ b.toNat = pw b := rfl
  obtain ⟨i0, hi, hz0, hz1, hz2⟩ := info_parts (P := Try.prog) (e := 5) (z := .int .u8 0) (size := 1) (bytes := 1) (by kernel_rfl)
  by_cases hlt : n < pw b - 1
  · have hbo : addHead h (bytesOf n (pw b - 1)) = [h + n] := by simp [bytesOf, hlt, addHead]
    rw [hbo]
    have hcv := row_string (l := [h + n]) (ownsRow_one w 5 (Value.int .u8 (h + n))) (by intro x hx; simp at hx; omega)
    go_enter Try.func35, Try.ntmps35
    go_wp2_with fail
    go_ret
    exact ⟨rfl, (Below.refl _ _).alloc (Nat.le_refl _) _⟩
  · have hbo : addHead h (bytesOf n (pw b - 1)) = (h + (pw b - 1)) :: restF 4 (n - (pw b - 1)) := by simp only [bytesOf]; rw [if_neg hlt]; rfl
    have hle : pw b - 1 ≤ n := by omega
    obtain ⟨L, hL⟩ : ∃ L, addHead h (bytesOf n (pw b - 1)) = L := ⟨_, rfl⟩
    have hLl : L.length ≤ 6 := by rw [← hL, addHead_len]; exact (bytesOf_len n _).2
    rw [hL] at hbo ⊢
    go_enter Try.func35, Try.ntmps35
    go_wp2_with fail
    go_loopw [0, 8] (fun r v wr => ∃ (k : Nat) (z : Int) (pre : List Int), r = .int .i64 z ∧ 0 ≤ z ∧ z < 128 ^ (k + 1) ∧ z ≤ 268435456 ∧ L = pre ++ restF k z ∧ (∀ x ∈ pre, 0 ≤ x ∧ x ≤ 255) ∧ wr.ownsRow w.heap.size 5 1 v pre.length (pre.map (Value.int .u8)) ∧ Below w.heap.size w wr) (fun r _ _ => (intOf r).toNat)
    case atStart =>
      exact ⟨4, n - (pw b - 1), [h + (pw b - 1)], by go_num, by omega, by simp; omega, by omega, hbo, by intro x hx; simp at hx; omega, ownsRow_one w 5 (Value.int .u8 (h + (pw b - 1))), (Below.refl _ _).alloc (Nat.le_refl _) _⟩
    case round =>
      obtain ⟨k, z, pre, rfl, hz0', hz1', hz2', hpre, hx, hown, hB⟩ := hrel
      have hpl : pre.length + 1 ≤ 6 := by have := restF_ne k z; rw [hpre, List.length_append] at hLl; omega
      have hsz := hB.size
      by_cases hz : z < 128
      · have HL : Hid (L = pre ++ [z]) := by show _ = _; rw [hpre, restF_small hz]
        have hown2 := hown.alloc (.cells #[.int .u8 z] 5)
        clear hz1' hpre hbo hL
        go_wp2_with (at_builtin; refine wpList_append_own _ rfl _ _ 22 rfl w.heap.size 5 i0 (.int .u8 0) 1 1 Try.underlying22 hi hz0 hz1 hz2 rfl (by decide) _ _ _ rfl hown2 ⟨wr.heap.size, 0, none⟩ 1 1 [.int .u8 z] rfl rfl ?c1 ?c2 ?c3 ?c4 ?c5 ?_)
        case c1 => exact cell_one_new _ _ _
        case c2 => intro u hu; simp at hu; subst hu; rfl
        case c3 => unfold maxLen; omega
        case c4 => omega
        case c5 => simp; omega
        intro v' w3 hown3 hgrow _
        have hcv := row_string (l := pre ++ [z]) (by simpa using hown3) (by intro x hx2; rcases List.mem_append.1 hx2 with h | h; exact hx x h; simp at h; omega)
        have hB3 : Below w.heap.size w w3 := (hB.alloc hB.size _).grown hgrow (by simp; omega) (fun k hk => (hown2.lt k hk).1)
        go_wp2_with fail
        go_ret
        exact ⟨by rw [HL.out]; rfl, hB3⟩
      · obtain ⟨k', rfl⟩ : ∃ k', k = k' + 1 := ⟨k - 1, by cases k with | zero => simp at hz1'; omega | succ k => rfl⟩
        have HL : Hid (L = (pre ++ [z % 128 + 128]) ++ restF k' (z / 128)) := by show _ = _; rw [hpre, restF_big (by omega)]; simp
        have HZ : Hid (z / 128 < 128 ^ (k' + 1)) := by show _ < _; rw [Int.pow_succ] at hz1'; omega
        have hown2 := hown.alloc (.cells #[.int .u8 (z % 128 + 128)] 5)
        clear hz1' hpre hbo hL
        go_wp2_with (at_builtin; refine wpList_append_own _ rfl _ _ 22 rfl w.heap.size 5 i0 (.int .u8 0) 1 1 Try.underlying22 hi hz0 hz1 hz2 rfl (by decide) _ _ _ rfl hown2 ⟨wr.heap.size, 0, none⟩ 1 1 [.int .u8 (z % 128 + 128)] rfl rfl (cell_one_new _ _ _) ?d2 ?d3 ?d4 ?d5 ?_)
        case d2 => first | rfl | (intro u hu; simp at hu; subst hu; rfl)
        case d3 => first | omega | (unfold maxLen; omega)
        case d4 => omega
        case d5 => first | omega | (simp; omega)
        intro v' w3 hown3 hgrow _
        have HX : Hid (∀ x ∈ pre ++ [z % 128 + 128], 0 ≤ x ∧ x ≤ 255) := by show ∀ _ ∈ _, _; intro x hx2; rcases List.mem_append.1 hx2 with h | h; exact hx x h; simp at h; omega
        have hB3 : Below w.heap.size w w3 := (hB.alloc hB.size _).grown hgrow (by simp; omega) (fun k hk => (hown2.lt k hk).1)
        have HO : Hid (w3.ownsRow w.heap.size 5 1 v' (pre ++ [z % 128 + 128]).length ((pre ++ [z % 128 + 128]).map (Value.int .u8))) := by show World.ownsRow _ _ _ _ _ _ _; simpa using hown3
        clear hown3 hown2 hown hx
        go_wp2_with fail
        go_roundw
        case rel => exact ⟨k', z / 128, _, by go_num, by omega, HZ.out, by omega, HL.out, HX.out, HO.out, hB3⟩
        case measure => simp [intOf]; omega

end Go.Proofs.Ytiilmbbgngpleaa
