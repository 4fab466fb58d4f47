/- Several small texts of one level, one behind the other. -/
import Derived.Test.YtejmnkabmajebaaQG3
import Derived.Handy
import Derived.Lib.ConvBytes
import Derived.Deep.RegionLaw
import Derived.Deep.DrawnRows
import Derived.Lib.SmallJoins
import Derived.Lib.EndianBits
import Derived.Test.YtejmnkabmajebaaQG2
/- A text that is bent: some bytes, at most two more than before; of what was there the cursor alone has moved. -/
namespace Go.Proofs.Ytejmnkabmajebaa
open Go.RowKit
set_option maxRecDepth 100000
set_option linter.unusedSimpArgs false
set_option linter.unusedVariables false

/-- A slice of n bytes in a block that the call made. -/
def BR (w : World) (base : Nat) (ad : Option Addr) (n cap : Nat) : Prop :=
  n ≤ cap ∧ cap ≤ maxLen ∧ (0 < n → ∃ blk, ad = some ⟨blk, 0, none⟩ ∧ base ≤ blk ∧ blk < w.heap.size ∧ ∀ j, j < n → (∃ u, ByteVal u ∧ w.cell? ⟨blk, j, none⟩ = some u) ∧ w.frozen? ⟨blk, j, none⟩ = false)

theorem BR.kept {w w' : World} {base : Nat} {ad : Option Addr} {n cap : Nat} (h : BR w base ad n cap) (hs : w.heap.size ≤ w'.heap.size) (hk : ∀ k, base ≤ k → k < w.heap.size → w'.heap[k]? = w.heap[k]?) : BR w' base ad n cap := by
  obtain ⟨h1, h2, h3⟩ := h
  refine ⟨h1, h2, fun hn => ?_⟩
  obtain ⟨blk, rfl, hb, hl, hc⟩ := h3 hn
  refine ⟨blk, rfl, hb, by omega, fun j hj => ?_⟩
  have e := hk blk hb hl
  obtain ⟨⟨u, hu, hcu⟩, hf⟩ := hc j hj
  exact ⟨⟨u, hu, (World.cell?_of_block (a := ⟨blk, j, none⟩) e).trans hcu⟩, (World.frozen?_of_block (a := ⟨blk, j, none⟩) e).trans hf⟩
theorem BR.moves {g : Nat} {w w' : World} {base : Nat} {ad : Option Addr} {n cap : Nat} (h : BR w base ad n cap) (hm : Moves g w w') (hg : g < base) : BR w' base ad n cap :=
  h.kept hm.size fun k hb hl => hm.block k hl (by omega)
theorem BR.cut {w : World} {base : Nat} {ad : Option Addr} {n cap : Nat} (h : BR w base ad n cap) (k : Nat) (hk : k ≤ n) : BR w base ad k cap := by
  obtain ⟨h1, h2, h3⟩ := h
  refine ⟨by omega, h2, fun hn => ?_⟩
  obtain ⟨blk, e, hb, hl, hc⟩ := h3 (by omega)
  exact ⟨blk, e, hb, hl, fun j hj => hc j (by omega)⟩
theorem BR.of_owns {w : World} {base n cap : Nat} {ad : Option Addr} {xs : List Value} (h : w.ownsRow base 5 1 (.slice ad n cap) n xs) (hx : ∀ u ∈ xs, ByteVal u) : BR w base ad n cap := by
  obtain ⟨hl, h2⟩ := h
  rcases h2 with ⟨h2, h3⟩ | ⟨g, cap', cur, e1, hb, hg, h3, h4, h5, h6⟩
  · simp only [Value.slice.injEq] at h2
    obtain ⟨rfl, rfl, rfl⟩ := h2
    exact ⟨Nat.le_refl _, Nat.zero_le _, fun h => absurd h (Nat.lt_irrefl _)⟩
  · simp only [Value.slice.injEq, true_and] at e1
    obtain ⟨rfl, rfl⟩ := e1
    refine ⟨h3, h4, fun hn => ⟨g, rfl, hb, (Array.getElem?_eq_some_iff.1 hg).1, fun j hj => ⟨?_, Joins.unfrozen_of_block hg j⟩⟩⟩
    have hj2 : j < cur.size := by omega
    refine ⟨cur[j], hx _ ?_, by rw [Joins.cell_of_block hg, Array.getElem?_eq_getElem hj2]⟩
    rw [← h6, List.mem_iff_getElem?]
    exact ⟨j, by rw [List.getElem?_take_of_lt (by omega)]; simp [hj2]⟩
/-- A window of such a slice reads as bytes. -/
theorem BR.window {w : World} {base : Nat} {n cap blk : Nat} (h : BR w base (some ⟨blk, 0, none⟩) n cap) (i m cap' : Nat) (him : i + m ≤ n) (hc : m ≤ cap') (hc' : cap' ≤ maxLen) (ad : Option Addr) (ha : 0 < m → ad = some ⟨blk, i, none⟩) :
    ∃ xs : List Value, (∀ u ∈ xs, ByteVal u) ∧ xs.length = m ∧ Reads w (.slice ad m cap') m 1 xs := by
  obtain ⟨h1, h2, h3⟩ := h
  have hall : ∀ m, i + m ≤ n → ∃ xs : List Value, (∀ u ∈ xs, ByteVal u) ∧ xs.length = m ∧ ∀ j u, xs[j]? = some u → w.cell? ⟨blk, i + j, none⟩ = some u := by
    intro m
    induction m with
    | zero => intro _; exact ⟨[], by simp, rfl, by simp⟩
    | succ m ih =>
      intro hm
      obtain ⟨xs, a1, a2, a3⟩ := ih (by omega)
      obtain ⟨blk', e, _, _, hcc⟩ := h3 (by omega)
      simp only [Option.some.injEq, Addr.mk.injEq, and_true] at e
      subst e
      obtain ⟨⟨u, hu, hcu⟩, _⟩ := hcc (i + m) (by omega)
      refine ⟨xs ++ [u], mem_append_byte a1 u hu, by simp [a2], fun j v hj => ?_⟩
      by_cases hjm : j < m
      · rw [List.getElem?_append_left (by omega)] at hj; exact a3 j v hj
      · have : j = m := by
          have := (List.getElem?_eq_some_iff.1 hj).1
          simp at this; omega
        subst this
        rw [← a2] at hj
        simp at hj
        subst hj; exact hcu
  obtain ⟨xs, a1, a2, a3⟩ := hall m him
  refine ⟨xs, a1, a2, by omega, ad, cap', rfl, hc, hc', fun hm => ?_⟩
  obtain ⟨blk', e, _, hl, _⟩ := h3 (by omega)
  simp only [Option.some.injEq, Addr.mk.injEq, and_true] at e
  subst e
  exact ⟨blk, i, ha hm, hl, a3⟩
theorem byte_one {u : Value} (h : ByteVal u) : u.oneCell' = true := by obtain ⟨z, rfl, _⟩ := h; rfl
theorem bytes_one {xs : List Value} (h : ∀ u ∈ xs, ByteVal u) : ∀ u ∈ xs, u.oneCell' = true := fun u hu => byte_one (h u hu)

theorem BR.string {W : World} {base n cap : Nat} {ad : Option Addr} (h : BR W base ad n cap) (hn : n = 0 → ad = none ∨ ∃ b o, ad = some ⟨b, o, none⟩) :
    ∃ s : ByteArray, s.size = n ∧ (convert 22 9 (.slice ad n cap)).run Try.prog W = .ok (.string s) W := by
  by_cases h0 : n = 0
  · subst h0
    rcases hn rfl with rfl | ⟨b, o, rfl⟩
    · exact ⟨⟨#[]⟩, rfl, by simpa using Lib.run_convert_nil_bytes (P := Try.prog) W 22 9 5 cap Try.underlying22 Try.underlying5 Try.underlying9⟩
    · exact ⟨⟨#[]⟩, rfl, by simpa using run_convert_bytes_back (P := Try.prog) W 22 9 5 ⟨b, o, none⟩ cap [] Try.underlying22 Try.underlying5 Try.underlying9 (fun j hj => by simp at hj)⟩
  · obtain ⟨blk, rfl, hb, hl, hc⟩ := h.2.2 (by omega)
    obtain ⟨xs, a1, a2, a3⟩ := h.window (blk := blk) 0 n cap (by omega) h.1 h.2.1 (some ⟨blk, 0, none⟩) (fun _ => rfl)
    obtain ⟨l, hl1, hl2⟩ := bytes_list xs a1
    refine ⟨⟨l.toArray⟩, by simp [ByteArray.size]; omega, ?_⟩
    have := run_convert_bytes_back (P := Try.prog) W 22 9 5 ⟨blk, 0, none⟩ cap l Try.underlying22 Try.underlying5 Try.underlying9 (fun j hj => by
      obtain ⟨_, ad', cap', e, _, _, hh⟩ := a3
      obtain ⟨b', o', e2, _, hh2⟩ := hh (by omega)
      simp only [Value.slice.injEq, true_and] at e
      obtain ⟨rfl, rfl⟩ := e
      simp only [Option.some.injEq, Addr.mk.injEq, and_true] at e2
      obtain ⟨rfl, rfl⟩ := e2
      have h6 : ((⟨blk, 0, none⟩ : Addr).add j) = ⟨blk, 0 + j, none⟩ := by unfold Addr.add; split <;> simp_all
      rw [h6]
      exact hh2 j _ (hl2 j hj))
    rw [show l.length = n by omega] at this
    exact this

/-- The bytes of a text, laid anew. -/
theorem br_new (w : World) (s : ByteArray) (hs : s.size ≤ 1000000) (hcap : grownCap w s.size 0 5 ≤ maxLen) (hle : s.size ≤ grownCap w s.size 0 5) :
    BR (Lib.bytesWorld w 5 s) w.heap.size (some ⟨w.heap.size, 0, none⟩) s.size (grownCap w s.size 0 5) := by
  refine ⟨hle, hcap, fun hn => ⟨w.heap.size, rfl, Nat.le_refl _, by rw [Lib.bytesWorld_size]; omega, fun j hj => ⟨⟨_, ?_, Lib.bytesWorld_cell w 5 s j hj⟩, ?_⟩⟩⟩
  · have := (s.data.toList.getD j 0).toNat_lt
    exact ⟨_, rfl, by omega, by omega⟩
  · have hsz : j < (Lib.bytesCells w 5 s).size := by
      have h2 : s.size = s.data.size := rfl
      simp [Lib.bytesCells]; omega
    unfold World.frozen?
    simp only [Lib.bytesWorld_at_new]
    simp
    omega
end Go.Proofs.Ytejmnkabmajebaa
/- Plain mathematics of chapter 3: the bytes that a number takes. -/
namespace Go.Proofs.Ytejmnkabmajebaa
set_option linter.unusedVariables false

/-- The bytes of a rest, seven bits each, at most k + 1 of them. -/
def restF : Nat → Int → List Int
  | 0, r => [r]
  | k + 1, r => if r < 128 then [r] else (r % 128 + 128) :: restF k (r / 128)
/-- The bytes of n, the high bits of the first left 0; f: the lowest bits all set. -/
def bytesOf (n f : Int) : List Int := if n < f then [n] else f :: restF 4 (n - f)

theorem restF_ne (k : Nat) (r : Int) : 0 < (restF k r).length := by
  cases k with
  | zero => simp [restF]
  | succ k => simp only [restF]; split <;> simp
theorem restF_len (k : Nat) : ∀ r : Int, (restF k r).length ≤ k + 1 := by
  induction k with
  | zero => intro r; simp [restF]
  | succ k ih => intro r; simp only [restF]; split <;> simp; exact ih _
theorem restF_small {k : Nat} {r : Int} (h : r < 128) : restF k r = [r] := by
  cases k with
  | zero => rfl
  | succ k => simp [restF, h]
theorem restF_big {k : Nat} {r : Int} (h : 128 ≤ r) : restF (k + 1) r = (r % 128 + 128) :: restF k (r / 128) := by
  simp only [restF]; rw [if_neg (by omega)]
theorem restF_range (k : Nat) : ∀ r : Int, 0 ≤ r → r < 128 ^ (k + 1) → ∀ x ∈ restF k r, 0 ≤ x ∧ x ≤ 255 := by
  induction k with
  | zero => intro r h0 h1 x hx; simp [restF] at hx h1; omega
  | succ k ih =>
    intro r h0 h1 x hx
    by_cases h : r < 128
    · rw [restF_small h] at hx; simp at hx; omega
    · rw [restF_big (by omega)] at hx
      rcases List.mem_cons.1 hx with rfl | hx
      · omega
      · refine ih (r / 128) (by omega) ?_ x hx
        rw [Int.pow_succ] at h1
        omega
theorem bytesOf_len (n f : Int) : 0 < (bytesOf n f).length ∧ (bytesOf n f).length ≤ 6 := by
  unfold bytesOf
  split
  · simp
  · have := restF_len 4 (n - f); simp; omega
/-- What Width answers. -/
def wdV (n b : Int) : Int := if okN n b = true then ((bytesOf n (pw b - 1)).length : Int) else 0
theorem wdV_no {n b : Int} (h : okN n b = false) : wdV n b = 0 := by simp [wdV, h]
theorem wdV_yes {n b : Int} (h : okN n b = true) : wdV n b = ((bytesOf n (pw b - 1)).length : Int) := by simp [wdV, h]
theorem wdV_range (n b : Int) : 0 ≤ wdV n b ∧ wdV n b ≤ 6 := by
  have := bytesOf_len n (pw b - 1)
  unfold wdV; split <;> omega
theorem bytesOf_ne (n f : Int) : bytesOf n f ≠ [] := by
  have := (bytesOf_len n f).1
  intro e; rw [e] at this; simp at this
end Go.Proofs.Ytejmnkabmajebaa
/- Chapter 3's High, of the program and of the model: the first byte without its lowest bits. -/
namespace Go.Proofs.Ytejmnkabmajebaa
open Go.RowKit
set_option maxRecDepth 100000
set_option linter.unusedSimpArgs false
set_option linter.unusedVariables false

theorem andNot_all : ∀ k : Fin 256, (bits .andNot .i64 (k.val : Int) 1 = (k.val : Int) / 2 * 2 ∧ bits .andNot .i64 (k.val : Int) 3 = (k.val : Int) / 4 * 4 ∧ bits .andNot .i64 (k.val : Int) 7 = (k.val : Int) / 8 * 8
    ∧ bits .andNot .i64 (k.val : Int) 15 = (k.val : Int) / 16 * 16) ∧ (bits .andNot .i64 (k.val : Int) 31 = (k.val : Int) / 32 * 32 ∧ bits .andNot .i64 (k.val : Int) 63 = (k.val : Int) / 64 * 64
    ∧ bits .andNot .i64 (k.val : Int) 127 = (k.val : Int) / 128 * 128 ∧ bits .andNot .i64 (k.val : Int) 255 = (k.val : Int) / 256 * 256) := by decide +kernel

theorem andNot_pw {x b : Int} (h0 : 0 ≤ x) (h1 : x ≤ 255) (hb1 : 1 ≤ b) (hb8 : b ≤ 8) : bits .andNot .i64 x (pw b - 1) = x / pw b * pw b := by
  obtain ⟨⟨a1, a2, a3, a4⟩, a5, a6, a7, a8⟩ := andNot_all ⟨x.toNat, by omega⟩
  have e : ((x.toNat : Nat) : Int) = x := by omega
  simp only [e] at a1 a2 a3 a4 a5 a6 a7 a8
  rcases bits8 hb1 hb8 with rfl | rfl | rfl | rfl | rfl | rfl | rfl | rfl <;> simpa [pw] using (by assumption)

/-- What High answers. -/
def hiV (s : ByteArray) (b : Int) : Int := if h : 0 < s.size then if 1 ≤ b ∧ b ≤ 8 then (s[0].toNat : Int) / pw b * pw b else -1 else -1
theorem hiV_yes {s : ByteArray} {b : Int} (h : 0 < s.size) (h1 : 1 ≤ b) (h8 : b ≤ 8) : hiV s b = (s[0].toNat : Int) / pw b * pw b := by simp [hiV, h, h1, h8]
theorem hiV_no {s : ByteArray} {b : Int} (h : s.size = 0 ∨ inB b 1 8 = false) : hiV s b = -1 := by
  rcases h with h | h
  · simp [hiV, h]
  · have := inB_false h
    unfold hiV
    simp [this]

theorem size0 {s : ByteArray} (h : s.size = 0) : s = ⟨#[]⟩ := by
  obtain ⟨⟨l⟩⟩ := s
  cases l with
  | nil => rfl
  | cons a l => simp [ByteArray.size] at h
theorem list_ne {s : ByteArray} (h : 0 < s.size) : ¬ s.toList = [] := by
  rw [ByteArray.toList_eq]
  intro e
  have : s.data.toList.length = 0 := by rw [e]; rfl
  rw [Array.length_toList] at this
  have h2 : s.size = s.data.size := rfl
  omega
theorem list_isEmpty {s : ByteArray} (h : 0 < s.size) : s.toList.isEmpty = false := by
  rw [List.isEmpty_eq_false_iff]; exact list_ne h

theorem implHigh (s : ByteArray) (b : Int) (w : World) (hs : s.size ≤ maxLen) : Calls Try.prog 68 #[.string s, .int .i64 b] w fun e w' => e = .returned (.int .i64 (hiV s b)) ∧ Below w.heap.size w w' := by
  unfold maxLen at hs
  by_cases h0 : s.size = 0
  · rw [hiV_no (.inl h0)]
    obtain rfl := size0 h0
    go_enter Try.func68, Try.ntmps68
    go_wp2_with fail
    go_ret
    exact ⟨rfl, Below.refl _ _⟩
  · have hp : 0 < s.size := by omega
    have hne := list_ne hp
    have hne' := list_isEmpty hp
    cases hb : inB b 1 8
    · rw [hiV_no (.inr hb)]
      go_enter Try.func68, Try.ntmps68
      go_wp2_with (go_at_call 95; refine (implPrefixBits _ _).mono ?_; rw [hb]; rintro e w' ⟨rfl, rfl⟩)
      go_ret
      exact ⟨rfl, Below.refl _ _⟩
    · obtain ⟨h1, h8⟩ := inB_true hb
      rw [hiV_yes hp h1 h8]
      have hx : (s[0].toNat : Int) ≤ 255 := by have := s[0].toNat_lt; omega
      have hx0 : 0 ≤ (s[0].toNat : Int) := by omega
      have HV : Hid (bits .andNot .i64 (s[0].toNat : Int) (pw b - 1) = (s[0].toNat : Int) / pw b * pw b) := andNot_pw hx0 hx h1 h8
      go_enter Try.func68, Try.ntmps68
      go_wp2_with (go_at_call 95; refine (implPrefixBits _ _).mono ?_; rw [hb]; rintro e w' ⟨rfl, rfl⟩)
      go_quiet ((go_at_call 96; exact Calls.quiet_of_same (implLowest _ _ h1 h8)))
      go_wp2_with fail
      go_ret
      exact ⟨by rw [HV.out]; rfl, bo_drewN _ (Below.refl _ _)⟩
end Go.Proofs.Ytejmnkabmajebaa
/- Rows of Fields: copied, held against each other, marked, read again, counted. -/
namespace Go.Proofs.Ytejmnkabmajebaa
open Go.RowKit
set_option maxRecDepth 100000
set_option linter.unusedSimpArgs false
set_option linter.unusedVariables false

structure Fd where
  n : ByteArray
  v : ByteArray
def Fd.cs (f : Fd) : List Value := [.string f.n, .string f.v]
/-- Small enough to be a Go text. -/
def Fd.fine (f : Fd) : Prop := f.n.size ≤ 9223372036854775807 ∧ f.v.size ≤ 9223372036854775807
def fv (L : List Fd) : List Value := L.flatMap Fd.cs
theorem fcs_len (s : Fd) : s.cs.length = 2 := rfl
theorem fv_len (L : List Fd) : (fv L).length = L.length * 2 := flat_length Fd.cs 2 fcs_len L
theorem fv_get (L : List Fd) (k : Nat) (h : k < L.length) : (fv L)[k * 2]? = some (.string L[k].n) ∧ (fv L)[k * 2 + 1]? = some (.string L[k].v) :=
  ⟨flat_get Fd.cs 2 fcs_len L k h 0 (by decide), flat_get Fd.cs 2 fcs_len L k h 1 (by decide)⟩
theorem fv_one (L : List Fd) : ∀ u ∈ fv L, u.oneCell' = true := by
  intro u hu
  obtain ⟨f, _, hf⟩ := List.mem_flatMap.1 hu
  simp only [Fd.cs, List.mem_cons, List.not_mem_nil, or_false] at hf
  rcases hf with rfl | rfl <;> rfl
theorem fv_app (A B : List Fd) : fv (A ++ B) = fv A ++ fv B := by simp [fv]

theorem toField1 (s : Fd) (w : World) : Calls Try.prog 58 #[.agg #[.string s.n, .string s.v]] w fun x w' => x = .returned (.agg #[.string s.n, .string s.v]) ∧ Below w.heap.size w w' := by
  go_enter Try.func58, Try.ntmps58
  go_wp2
  go_returns
  exact ⟨rfl, (by repeat' (first | (with_reducible exact Below.refl _ _) | (with_reducible refine Below.drew ?_) | (with_reducible refine bo_drewN _ ?_) | (with_reducible refine bo_alloc ?_ _) | (refine bchain ?_ (by with_reducible assumption)) | (with_reducible refine Below.setCell ?_ ?_ _) | go_size))⟩

theorem eqField1 (s : Fd) (w : World) : Calls Try.prog 59 #[.agg #[.string s.n, .string s.v], .agg #[.string s.n, .string s.v]] w fun x w' => x = .returned (.bool true) ∧ Below w.heap.size w w' := by
  go_enter Try.func59, Try.ntmps59
  go_wp2
  go_ret
  exact ⟨rfl, (by repeat' (first | (with_reducible exact Below.refl _ _) | (with_reducible refine Below.drew ?_) | (with_reducible refine bo_drewN _ ?_) | (with_reducible refine bo_alloc ?_ _) | (refine bchain ?_ (by with_reducible assumption)) | (with_reducible refine Below.setCell ?_ ?_ _) | go_size))⟩

/-- How many bytes both have. -/
def szF (f : Fd) : Int := f.n.size + f.v.size
theorem szField1 (f : Fd) (left : Int) (w : World) (hf : f.fine) (h0 : 0 ≤ left) (h1 : left ≤ 1048576) :
    Calls Try.prog 57 #[.agg #[.string f.n, .string f.v], .int .i64 left] w fun x w' => x = .returned (.int .i64 (if left - szF f < 0 then -1 else left - szF f)) ∧ Below w.heap.size w w' := by
  obtain ⟨hn, hv⟩ := hf
  unfold szF
  by_cases hA : left - f.n.size < 0
  · have e : left - ((f.n.size : Int) + f.v.size) < 0 := by omega
    rw [if_pos e]
    go_enter Try.func57, Try.ntmps57
    go_wp2
    go_ret
    exact ⟨rfl, (by repeat' (first | (with_reducible exact Below.refl _ _) | (with_reducible refine Below.drew ?_) | (with_reducible refine bo_drewN _ ?_) | (with_reducible refine bo_alloc ?_ _) | (refine bchain ?_ (by with_reducible assumption)) | (with_reducible refine Below.setCell ?_ ?_ _) | go_size))⟩
  · by_cases hB : left - f.n.size - f.v.size < 0
    · have e : left - ((f.n.size : Int) + f.v.size) < 0 := by omega
      rw [if_pos e]
      go_enter Try.func57, Try.ntmps57
      go_wp2
      go_ret
      exact ⟨rfl, (by repeat' (first | (with_reducible exact Below.refl _ _) | (with_reducible refine Below.drew ?_) | (with_reducible refine bo_drewN _ ?_) | (with_reducible refine bo_alloc ?_ _) | (refine bchain ?_ (by with_reducible assumption)) | (with_reducible refine Below.setCell ?_ ?_ _) | go_size))⟩
    · have e : ¬ left - ((f.n.size : Int) + f.v.size) < 0 := by omega
      rw [if_neg e, show left - ((f.n.size : Int) + f.v.size) = left - f.n.size - f.v.size by omega]
      clear e
      go_enter Try.func57, Try.ntmps57
      go_wp2
      go_ret
      exact ⟨rfl, (by repeat' (first | (with_reducible exact Below.refl _ _) | (with_reducible refine Below.drew ?_) | (with_reducible refine bo_drewN _ ?_) | (with_reducible refine bo_alloc ?_ _) | (refine bchain ?_ (by with_reducible assumption)) | (with_reducible refine Below.setCell ?_ ?_ _) | go_size))⟩

/-- How many bytes the fields of a row have. -/
def szL : List Fd → Int
  | [] => 0
  | f :: L => szF f + szL L
theorem szF_pos (f : Fd) : 0 ≤ szF f := by unfold szF; omega
theorem szL_pos (L : List Fd) : 0 ≤ szL L := by
  induction L with
  | nil => simp [szL]
  | cons f L ih => have := szF_pos f; simp only [szL]; omega
theorem szL_app (A B : List Fd) : szL (A ++ B) = szL A + szL B := by
  induction A with
  | nil => simp [szL]
  | cons f A ih => simp only [List.cons_append, szL, ih]; omega
theorem szL_split (L : List Fd) (k : Nat) (h : k < L.length) : szL L = szL (L.take k) + szF L[k] + szL (L.drop (k + 1)) := by
  conv => lhs; rw [← List.take_append_drop k L, List.drop_eq_getElem_cons h, szL_app]
  simp only [szL]; omega
theorem szL_succ (L : List Fd) (k : Nat) (h : k < L.length) : szL (L.take (k + 1)) = szL (L.take k) + szF L[k] := by
  rw [List.take_succ_eq_append_getElem h, szL_app]; simp [szL]

set_option maxHeartbeats 1000000 in
theorem szFields (L : List Fd) (v : Value) (left : Int) (w : World) (hr0 : Reads w v L.length 2 (fv L)) (hf : ∀ f ∈ L, f.fine) (h0 : 0 ≤ left) (h1 : left ≤ 1048576) :
    Calls Try.prog 27 #[v, .int .i64 left] w fun x w' => x = .returned (.int .i64 (if left - L.length - szL L < 0 then -1 else left - L.length - szL L)) ∧ Below w.heap.size w w' := by
  obtain ⟨hl, ad, cap, rfl, h2, h3, h4⟩ := hr0
  unfold maxLen at h3
  have hp := szL_pos L
  have H3 := hide h4
  have HF := hide hf
  clear h4 hf
  obtain ⟨R, hR⟩ : ∃ R : Int, R = if left - L.length - szL L < 0 then -1 else left - L.length - szL L := ⟨_, rfl⟩
  rw [← hR]
  have HR := hide hR
  clear hR
  by_cases h : left - L.length < 0
  · have e := HR.out
    rw [if_pos (by omega)] at e
    subst e
    clear HR
    go_enter Try.func27, Try.ntmps27
    go_wp2_with fail
    go_ret
    exact ⟨rfl, (by repeat' (first | (with_reducible exact Below.refl _ _) | (with_reducible refine Below.drew ?_) | (with_reducible refine bo_drewN _ ?_) | (with_reducible refine bo_alloc ?_ _) | (refine bchain ?_ (by with_reducible assumption)) | (with_reducible refine Below.setCell ?_ ?_ _) | go_size))⟩
  · go_enter Try.func27, Try.ntmps27
    go_wp2_with fail
    go_loopw [1, 5] (fun lv i wr => ∃ (k : Nat), i = .int .i64 k ∧ k ≤ L.length ∧ lv = .int .i64 (left - L.length - szL (L.take k)) ∧ 0 ≤ left - L.length - szL (L.take k) ∧ Below w.heap.size w wr) (fun _ i _ => L.length - (intOf i).toNat)
    case atStart => exact ⟨0, rfl, Nat.zero_le _, by simp [szL], by simp [szL]; omega, Below.refl _ _⟩
    case round =>
      obtain ⟨k, rfl, hk, rfl, hpos, hb⟩ := hrel
      by_cases hlt : k < L.length
      · obtain ⟨b, o, rfl, hbw, hc⟩ := H3.out (by omega)
        obtain ⟨s0, s1⟩ := fv_get L k hlt
        have hsp := szL_split L k hlt
        have hsu := szL_succ L k hlt
        have hp2 := szL_pos (L.drop (k + 1))
        have hp3 := szL_pos (L.take k)
        have hfk := HF.out _ (List.getElem_mem hlt)
        obtain ⟨f, hff⟩ : ∃ f, f = L[k] := ⟨_, rfl⟩
        rw [← hff] at s0 s1 hsp hsu hfk
        have c0 : wr.cell? ⟨b, o + k * 2, none⟩ = some (.string f.n) := by rw [hb.cell (p := ⟨b, o + k * 2, none⟩) hbw]; exact hc _ _ s0
        have c1 : wr.cell? ⟨b, o + k * 2 + 1, none⟩ = some (.string f.v) := by rw [hb.cell (p := ⟨b, o + k * 2 + 1, none⟩) hbw]; exact hc _ _ s1
        clear hc s0 s1 hff
        have HS := hide hsp; have HU := hide hsu
        have hpf := szF_pos f
        generalize hA : szL (L.take k) = A at *
        clear hsp hsu hA
        by_cases hneg : left - L.length - A - szF f < 0
        · have e := HR.out
          rw [if_pos (by have := HS.out; omega)] at e
          subst e
          clear HR
          go_wp2_with fail
          refine (szField1 f _ _ hfk (by omega) (by omega)).mono ?_; rw [if_pos (by omega)]; rintro x w1 ⟨rfl, hb1⟩
          go_wp2_with fail
          go_ret
          exact ⟨rfl, bchain hb hb1⟩
        · go_wp2_with fail
          refine (szField1 f _ _ hfk (by omega) (by omega)).mono ?_; rw [if_neg (by omega)]; rintro x w1 ⟨rfl, hb1⟩
          go_wp2_with fail
          exact ⟨⟨k + 1, by go_num, by omega, int_eq (by have := HU.out; omega), by have := HU.out; omega, bchain hb hb1⟩, by simp [intOf]; omega⟩
      · obtain rfl : k = L.length := by omega
        rw [List.take_length] at hpos ⊢
        have e := HR.out
        rw [if_neg (by omega)] at e
        subst e
        clear HR
        go_wp2_with fail
        go_ret
        exact ⟨rfl, hb⟩

set_option maxHeartbeats 1000000 in
theorem toFields (L : List Fd) (v : Value) (w : World) (hr0 : Reads w v L.length 2 (fv L)) (hL : L.length ≤ 1048576) :
    Calls Try.prog 29 #[v] w fun x w' => ∃ v', x = .returned v' ∧ w'.ownsRow w.heap.size 46 2 v' L.length (fv L) ∧ Below w.heap.size w w' := by
  obtain ⟨M, hM, hmk⟩ := make_row 24 46 (.agg #[.string ⟨#[]⟩, .string ⟨#[]⟩]) 2 32 Try.underlying24 (by kernel_rfl) rfl (by decide) (by decide) L.length hL
  obtain ⟨hl, ad, cap, rfl, h1, h2, h3⟩ := hr0
  have ho := owns_made w M 46 2 L.length hM hL
  have H3 := hide h3
  clear h3
  unfold maxLen at h2
  go_enter Try.func29, Try.ntmps29
  go_wp2_with fail
  go_loopw [4] (fun i wr => ∃ (k : Nat) (xs : List Value), i = .int .i64 k ∧ k ≤ L.length ∧ wr.ownsRow w.heap.size 46 2 (.slice (some ⟨w.heap.size, 0, none⟩) L.length L.length) L.length xs ∧ (∀ j, j < k * 2 → xs[j]? = (fv L)[j]?) ∧ Below w.heap.size w wr) (fun i _ => L.length - (intOf i).toNat)
  case atStart => exact ⟨0, _, rfl, Nat.zero_le _, ho, fun j hj => absurd hj (by omega), (Below.refl _ _).alloc (Nat.le_refl _) _⟩
  case round =>
    obtain ⟨k, xs, rfl, hk, hown, hx, hb⟩ := hrel
    by_cases hlt : k < L.length
    · obtain ⟨b, o, rfl, hbw, hc⟩ := H3.out (by omega)
      obtain ⟨s0, s1⟩ := fv_get L k hlt
      have c0 : wr.cell? ⟨b, o + k * 2, none⟩ = some (.string L[k].n) := by rw [hb.cell (p := ⟨b, o + k * 2, none⟩) hbw]; exact hc _ _ s0
      have c1 : wr.cell? ⟨b, o + k * 2 + 1, none⟩ = some (.string L[k].v) := by rw [hb.cell (p := ⟨b, o + k * 2 + 1, none⟩) hbw]; exact hc _ _ s1
      have HX := hide hx
      have S0 := hide s0; have S1 := hide s1; clear s0 s1
      have HOwn := hide hown
      clear hx hown hc
      go_wp2_with fail
      refine (toField1 L[k] _).mono ?_; rintro x w1 ⟨rfl, hb1⟩
      have hown1 := owns_new HOwn.out hb1
      have hbb := bchain hb hb1
      obtain ⟨g, cap', e1, e2, e3, e4, _, _, e5, e6⟩ := owns_open hown1 (by omega)
      simp only [Value.slice.injEq, Option.some.injEq, Addr.mk.injEq] at e1
      obtain ⟨⟨rfl, _, _⟩, _, rfl⟩ := e1
      have hl1 := hown1.1
      obtain ⟨u0, hu0⟩ : ∃ u, w1.cell? ⟨w.heap.size, k * 2, none⟩ = some u := ⟨_, e5 _ _ (List.getElem?_eq_getElem (by omega))⟩
      obtain ⟨u1, hu1⟩ : ∃ u, w1.cell? ⟨w.heap.size, k * 2 + 1, none⟩ = some u := ⟨_, e5 _ _ (List.getElem?_eq_getElem (by omega))⟩
      have HO := hide (owns_set (owns_set hown1 rfl (k * 2) (.string L[k].n)) rfl (k * 2 + 1) (.string L[k].v))
      have HP := hide (pre_set ((k + 1) * 2) (pre_set (k * 2 + 1) HX.out S0.out (by omega) rfl) S1.out (by simp; omega) (by omega))
      clear e5 e2 hown1
      go_wp2_with fail
      exact ⟨⟨k + 1, _, by go_num, by omega, HO.out, HP.out, (hbb.setCell (by simp) _).setCell (by simp) _⟩, by simp [intOf]; omega⟩
    · obtain rfl : k = L.length := by omega
      have hxs : xs = fv L := pre_end hown.1 (fv_len L) hx
      subst hxs
      go_wp2_with fail
      go_ret
      exact ⟨_, rfl, hown, hb⟩

set_option maxHeartbeats 1000000 in
theorem eqFields (L : List Fd) (v v' : Value) (w : World) (hr0 : Reads w v L.length 2 (fv L)) (hr1 : Reads w v' L.length 2 (fv L)) :
    Calls Try.prog 31 #[v, v'] w fun x w' => x = .returned (.bool true) ∧ Below w.heap.size w w' := by
  obtain ⟨hl, ad, cap, rfl, h1, h2, h3⟩ := hr0
  obtain ⟨hl', ad', cap', rfl, h1', h2', h3'⟩ := hr1
  have H3 := hide h3
  have H3' := hide h3'
  clear h3 h3'
  unfold maxLen at h2 h2'
  go_enter Try.func31, Try.ntmps31
  go_wp2_with fail
  go_loopw [5] (fun i wr => ∃ (k : Nat), i = .int .i64 k ∧ k ≤ L.length ∧ Below w.heap.size w wr) (fun i _ => L.length - (intOf i).toNat)
  case atStart => exact ⟨0, rfl, Nat.zero_le _, Below.refl _ _⟩
  case round =>
    obtain ⟨k, rfl, hk, hb⟩ := hrel
    by_cases hlt : k < L.length
    · obtain ⟨b, o, rfl, hbw, hc⟩ := H3.out (by omega)
      obtain ⟨b', o', rfl, hbw', hc'⟩ := H3'.out (by omega)
      obtain ⟨s0, s1⟩ := fv_get L k hlt
      have c0 : wr.cell? ⟨b, o + k * 2, none⟩ = some (.string L[k].n) := by rw [hb.cell (p := ⟨b, o + k * 2, none⟩) hbw]; exact hc _ _ s0
      have c1 : wr.cell? ⟨b, o + k * 2 + 1, none⟩ = some (.string L[k].v) := by rw [hb.cell (p := ⟨b, o + k * 2 + 1, none⟩) hbw]; exact hc _ _ s1
      have d0 : wr.cell? ⟨b', o' + k * 2, none⟩ = some (.string L[k].n) := by rw [hb.cell (p := ⟨b', o' + k * 2, none⟩) hbw']; exact hc' _ _ s0
      have d1 : wr.cell? ⟨b', o' + k * 2 + 1, none⟩ = some (.string L[k].v) := by rw [hb.cell (p := ⟨b', o' + k * 2 + 1, none⟩) hbw']; exact hc' _ _ s1
      have hsb := hb.size
      have hb1 : b < wr.heap.size := by omega
      have hb2 : b' < wr.heap.size := by omega
      clear hc hc' s0 s1
      go_wp2_with fail
      have q0 : ∀ y : Later wr, y.w.cell? ⟨b, o + k * 2, none⟩ = some (.string L[k].n) := fun y => (y.b.cell (p := ⟨b, o + k * 2, none⟩) hb1).trans c0
      have q1 : ∀ y : Later wr, y.w.cell? ⟨b, o + k * 2 + 1, none⟩ = some (.string L[k].v) := fun y => (y.b.cell (p := ⟨b, o + k * 2 + 1, none⟩) hb1).trans c1
      have r0 : ∀ y : Later wr, y.w.cell? ⟨b', o' + k * 2, none⟩ = some (.string L[k].n) := fun y => (y.b.cell (p := ⟨b', o' + k * 2, none⟩) hb2).trans d0
      have r1 : ∀ y : Later wr, y.w.cell? ⟨b', o' + k * 2 + 1, none⟩ = some (.string L[k].v) := fun y => (y.b.cell (p := ⟨b', o' + k * 2 + 1, none⟩) hb2).trans d1
      clear c0 c1 d0 d1
      have hne : Nonempty (Later wr) := ⟨⟨wr, Below.refl _ _⟩⟩; refine region_later (by kernel_rfl) (by kernel_rfl) ?_
      repeat (go_big_quiet_step (fail))
      go_big_quiet_want; go_big_quiet_op; refine ⟨.bool true, fun y => later_calls (x := y) (eqField1 L[k] y.w), ?_⟩; go_big_quiet_on
      repeat (go_big_quiet_step (fail))
      refine wpQuiet_nil ?_; intro _ hw'; obtain ⟨y, hw''⟩ := hw'; subst hw''; have hby := y.b
      go_wp2_with fail
      go_roundw
      case rel => exact ⟨k + 1, by go_num, by omega, bchain hb hby⟩
      case measure => simp [intOf]; omega
    · go_wp2_with fail
      go_ret
      exact ⟨rfl, hb⟩

/-- The marks of a row of n texts, from k on. -/
def mkT (k n : Nat) : List Value := (List.range n).map fun j => .string (mtx (k + j))
theorem mkT_len (k n : Nat) : (mkT k n).length = n := by simp [mkT]
theorem mkT_get (k n j : Nat) (h : j < n) : (mkT k n)[j]? = some (.string (mtx (k + j))) := by simp [mkT, h]

set_option maxHeartbeats 1000000 in
theorem heldFields (n k : Nat) (v : Value) (w : World) (hr0 : Reads w v n 2 (mkT k (n * 2))) (hk1 : k + n * 2 ≤ 1000000000) :
    Calls Try.prog 35 #[v, .int .i64 k] w fun x w' => x = .returned (.int .i64 ((k + n * 2 : Nat) : Int)) ∧ Below w.heap.size w w' := by
  obtain ⟨hl, ad, cap, rfl, h1, h2, h3⟩ := hr0
  have H3 := hide h3
  clear h3
  unfold maxLen at h2
  go_enter Try.func35, Try.ntmps35
  go_wp2_with fail
  go_loopw [1, 5] (fun kk i wr => ∃ (j : Nat), i = .int .i64 j ∧ kk = .int .i64 ((k + j * 2 : Nat) : Int) ∧ j ≤ n ∧ Below w.heap.size w wr) (fun _ i _ => n - (intOf i).toNat)
  case atStart => exact ⟨0, rfl, by simp, Nat.zero_le _, Below.refl _ _⟩
  case round =>
    obtain ⟨j, rfl, rfl, hj, hb⟩ := hrel
    by_cases hlt : j < n
    · obtain ⟨b, o, rfl, hbw, hc⟩ := H3.out (by omega)
      obtain ⟨K, hK⟩ : ∃ K : Nat, K = k + j * 2 := ⟨_, rfl⟩
      have hK1 : k + (j * 2 + 1) = K + 1 := by omega
      have c0 : wr.cell? ⟨b, o + j * 2, none⟩ = some (.string (mtx K)) := by rw [hb.cell (p := ⟨b, o + j * 2, none⟩) hbw, hK]; exact hc _ _ (mkT_get k (n * 2) (j * 2) (by omega))
      have c1 : wr.cell? ⟨b, o + j * 2 + 1, none⟩ = some (.string (mtx (K + 1))) := by rw [hb.cell (p := ⟨b, o + j * 2 + 1, none⟩) hbw, ← hK1]; exact hc _ _ (mkT_get k (n * 2) (j * 2 + 1) (by omega))
      have hsb := hb.size
      have hb1 : b < wr.heap.size := by omega
      clear hc hK1
      have hkb : K + 1 ≤ 1000000000 := by omega
      rw [← hK]
      have HK := hide hK
      clear hK
      go_wp2_with fail
      have q0 : ∀ y : Later wr, y.w.cell? ⟨b, o + j * 2, none⟩ = some (.string (mtx K)) := fun y => (y.b.cell (p := ⟨b, o + j * 2, none⟩) hb1).trans c0
      have hne : Nonempty (Later wr) := ⟨⟨wr, Below.refl _ _⟩⟩; refine region_later (by kernel_rfl) (by kernel_rfl) ?_
      repeat (go_big_quiet_step (fail))
      go_big_quiet_want; go_big_quiet_op; refine ⟨.string (mtx K), fun y => later_calls (x := y) ((fun u => markTx K u (by omega)) y.w), ?_⟩; go_big_quiet_on
      repeat (go_big_quiet_step (fail))
      refine wpQuiet_nil ?_; intro _ hw'; obtain ⟨y, hw''⟩ := hw'; subst hw''; have hby := y.b
      clear q0 hne
      have c1' := (hby.cell (p := ⟨b, o + j * 2 + 1, none⟩) hb1).trans c1
      have hb1' : b < y.w.heap.size := Nat.lt_of_lt_of_le hb1 hby.size
      obtain ⟨wy, hwy⟩ : ∃ wy, wy = y.w := ⟨_, rfl⟩
      rw [← hwy] at hby c1' hb1' ⊢
      clear c0 c1 hwy y
      have hbb := bchain hb hby
      go_wp2_with fail
      have q1 : ∀ y : Later wy, y.w.cell? ⟨b, o + j * 2 + 1, none⟩ = some (.string (mtx (K + 1))) := fun y => (y.b.cell (p := ⟨b, o + j * 2 + 1, none⟩) hb1').trans c1'
      have hne : Nonempty (Later wy) := ⟨⟨wy, Below.refl _ _⟩⟩; refine region_later (by kernel_rfl) (by kernel_rfl) ?_
      repeat (go_big_quiet_step (fail))
      go_big_quiet_want; go_big_quiet_op; refine ⟨.string (mtx (K + 1)), fun y => later_calls (x := y) ((fun u => markTx (K + 1) u (by omega)) y.w), ?_⟩; go_big_quiet_on
      repeat (go_big_quiet_step (fail))
      refine wpQuiet_nil ?_; intro _ hw'; obtain ⟨y2, hw''⟩ := hw'; subst hw''; have hby2 := y2.b
      go_wp2_with fail
      go_roundw
      case rel => exact ⟨j + 1, by go_num, int_eq (by have := HK.out; omega), by omega, bchain hbb hby2⟩
      case measure => simp [intOf]; omega
    · obtain rfl : j = n := by omega
      go_wp2_with fail
      go_ret
      exact ⟨rfl, hb⟩

set_option maxHeartbeats 1000000 in
theorem markFields (n k : Nat) (v : Value) (xs : List Value) (lo : Nat) (w : World) (ho : w.ownsRow lo 46 2 v n xs) (hk1 : k + n * 2 ≤ 1000000000) :
    Calls Try.prog 33 #[v, .int .i64 k] w fun x w' => x = .returned (.int .i64 ((k + n * 2 : Nat) : Int)) ∧ w'.ownsRow lo 46 2 v n (mkT k (n * 2)) ∧ w.grownBy w' v.ownBlock := by
  obtain ⟨ad, cap, rfl, h1, h2⟩ := owns_form ho
  unfold maxLen at h2
  have HO := hide ho
  clear ho
  go_enter Try.func33, Try.ntmps33
  go_wp2_with fail
  go_loopw [1, 5] (fun kk i wr => ∃ (j : Nat) (ys : List Value), i = .int .i64 j ∧ kk = .int .i64 ((k + j * 2 : Nat) : Int) ∧ j ≤ n ∧ wr.ownsRow lo 46 2 (.slice ad n cap) n ys ∧ (∀ t, t < j * 2 → ys[t]? = (mkT k (n * 2))[t]?) ∧ w.grownBy wr (Value.slice ad n cap).ownBlock) (fun _ i _ => n - (intOf i).toNat)
  case atStart => exact ⟨0, _, rfl, by simp, Nat.zero_le _, HO.out, fun t ht => absurd ht (by omega), gb_refl _ _⟩
  case round =>
    obtain ⟨j, ys, rfl, rfl, hj, hown, hy, ht⟩ := hrel
    by_cases hlt : j < n
    · obtain ⟨K, hK⟩ : ∃ K : Nat, K = k + j * 2 := ⟨_, rfl⟩
      have hkb : K + 1 ≤ 1000000000 := by omega
      rw [← hK]
      have HK := hide hK
      have HT := hide ht
      have HY := hide hy
      have HOwn := hide hown
      clear hy hown hK ht
      go_wp2_with fail
      refine (markTx K _ (by omega)).mono ?_; rintro x w1 ⟨rfl, hb1⟩
      have hown1 := owns_new HOwn.out hb1
      obtain ⟨g, cap', e1, e2, e3, e4, _, _, e5, e6⟩ := owns_open hown1 (by omega)
      simp only [Value.slice.injEq] at e1
      obtain ⟨rfl, _, rfl⟩ := e1
      have hl1 := hown1.1
      obtain ⟨u0, hu0⟩ : ∃ u, w1.cell? ⟨g, j * 2, none⟩ = some u := ⟨_, e5 _ _ (List.getElem?_eq_getElem (by omega))⟩
      have HO1 := hide (owns_set (g := g) hown1 rfl (j * 2) (.string (mtx K)))
      have HP1 := hide (pre_set (j * 2 + 1) (a := .string (mtx K)) HY.out (by rw [mkT_get k (n * 2) (j * 2) (by omega), HK.out]) (by omega) rfl)
      have ht1 := hide (gb_set (gb_trans HT.out (gb_new hb1 _)) ⟨g, j * 2, none⟩ (.string (mtx K)) (by rfl))
      clear e5 e2 hown1
      go_wp2_with fail
      generalize w1.setCell ⟨g, j * 2, none⟩ (.string (mtx K)) = w2 at *
      refine (markTx (K + 1) _ (by omega)).mono ?_; rintro x w3 ⟨rfl, hb3⟩
      have hown3 := owns_new HO1.out hb3
      obtain ⟨g', cap'', f1, f2, f3, f4, _, _, f5, f6⟩ := owns_open hown3 (by omega)
      simp only [Value.slice.injEq, Option.some.injEq, Addr.mk.injEq] at f1
      obtain ⟨⟨rfl, _, _⟩, _, rfl⟩ := f1
      have hl3 := hown3.1
      obtain ⟨u1, hu1⟩ : ∃ u, w3.cell? ⟨g, j * 2 + 1, none⟩ = some u := ⟨_, f5 _ _ (List.getElem?_eq_getElem (by omega))⟩
      have HO3 := hide (owns_set (g := g) hown3 rfl (j * 2 + 1) (.string (mtx (K + 1))))
      have HP3 := hide (pre_set ((j + 1) * 2) (a := .string (mtx (K + 1))) HP1.out (by rw [mkT_get k (n * 2) (j * 2 + 1) (by omega), HK.out]; rfl) (by rw [List.length_set] at hl3 ⊢; omega) (by omega))
      have ht3 := hide (gb_set (gb_trans ht1.out (gb_new hb3 _)) ⟨g, j * 2 + 1, none⟩ (.string (mtx (K + 1))) (by rfl))
      clear f5 f2 hown3
      go_wp2_with fail
      exact ⟨⟨j + 1, _, by go_num, int_eq (by have := HK.out; omega), by omega, HO3.out, HP3.out, ht3.out⟩, by simp [intOf]; omega⟩
    · obtain rfl : j = n := by omega
      have hys : ys = mkT k (j * 2) := pre_end hown.1 (mkT_len _ _) hy
      subst hys
      go_wp2_with fail
      go_ret
      exact ⟨rfl, hown, ht⟩
end Go.Proofs.Ytejmnkabmajebaa
/- The cursor beside memory that turns within an interval of blocks. (DrawCells holds the same for its own seat.) -/
namespace Go.Proofs.Ytejmnkabmajebaa
open Go.RowKit
set_option maxRecDepth 100000
set_option linter.unusedSimpArgs false
set_option linter.unusedVariables false

theorem Moves.turn {g : Nat} {w w' : World} (h : Moves g w w') : Turn g (g + 1) w w' := ⟨h.os, h.tape, h.output, h.size, fun k hk hg => h.block k hk (by omega)⟩
theorem owns_moves {w w' : World} {g base n size : Nat} {e : TypeId} {v : Value} {xs : List Value} (h : w.ownsRow base e size v n xs) (hm : Moves g w w') (hg : g < base) : w'.ownsRow base e size v n xs :=
  owns_turn h hm.turn fun k hk => by have := (h.lt k hk).1; omega
theorem Cur.turn {w w' : World} {g B lo hi : Nat} (h : Cur w g B) (ht : Turn lo hi w w') (hl : g < lo) : Cur w' g B :=
  h.kept ⟨ht.os, ht.tape, ht.output, ht.size, fun k hk => ht.block k (by have := h.lt; omega) (by omega)⟩
theorem Moves.turned {w a b : World} {g lo hi : Nat} (h : Moves g w a) (ht : Turn lo hi a b) (hl : w.heap.size ≤ lo) : Moves g w b :=
  ⟨ht.os.trans h.os, ht.tape.trans h.tape, ht.output.trans h.output, Nat.le_trans h.size ht.size, fun k hk hg => (ht.block k (by have := h.size; omega) (by omega)).trans (h.block k hk hg)⟩

theorem RowIs.moves {w w' : World} {g b : Nat} {ty : TypeId} {cs : List Value} (h : RowIs w b ty cs) (hm : Moves g w w') (hne : b ≠ g) : RowIs w' b ty cs := h.kept (hm.block b h.lt hne)
theorem RowIs.turn {w w' : World} {lo hi b : Nat} {ty : TypeId} {cs : List Value} (h : RowIs w b ty cs) (ht : Turn lo hi w w') (hne : b < lo ∨ hi ≤ b) : RowIs w' b ty cs := h.kept (ht.block b h.lt hne)
end Go.Proofs.Ytejmnkabmajebaa
