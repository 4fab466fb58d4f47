/- Numbers as texts by the library (strconv.FormatInt, strconv.ParseInt) and texts parted (strings.SplitN): what is asked of the package-level variables that they read; the program's names and numbers. -/
import Derived.Test.YtfemmnhfllbgjaaGreatDoorTokWay
import Derived.Test.YtfemmnhfllbgjaaGreatDoorTokSpec1
import Derived.Test.YtfemmnhfllbgjaaGreatDoorLibNum
import Derived.Lib.AppendIntMem
import Derived.Shelf.Strconv.Itoa4
import Derived.Shelf.Strconv.ErrVarParseInt
import Derived.Shelf.Strings.SplitShaped

namespace Go.Proofs.YtfemmnhfllbgjaaGreatDoor
open Go.RowKit
set_option maxRecDepth 100000
set_option linter.unusedSimpArgs false
set_option linter.unusedVariables false
theorem var_new {w w' : World} {n : String} {cs : Array Value} (hb : Below w.heap.size w w') (h : w.var? Tryz.prog n = some cs) : w'.var? Tryz.prog n = some cs := by
  unfold World.var? at h ⊢
  cases hg : Tryz.prog.globalNamed n with
  | none => simp [hg] at h
  | some g =>
    simp only [hg, Option.bind_some] at h ⊢
    have hlt : g < w.heap.size := by
      rcases Nat.lt_or_ge g w.heap.size with h' | h'
      · exact h'
      · simp [Array.getElem?_eq_none h'] at h
    rw [hb.block g hlt]
    exact h
/-- The table of the powers of ten lies as the library's text lays it. -/
def TabV (w : World) : Prop := Lib.TabIs Tryz.prog w "internal/strconv.uint64pow10" .u64 Lib.pow10Tab
theorem TabV.new {w w' : World} (h : TabV w) (hb : Below w.heap.size w w') : TabV w' := var_new hb h
theorem libFormat (n : Nat) (w : World) (hn : n ≤ 9223372036854775807) (ht : TabV w) : Calls Tryz.prog 71 #[.int .i64 n, .int .i64 10] w fun e w' => e = .returned (.string (strOf (decL n))) ∧ Below w.heap.size w w' := by
  refine (Any.strconv_FormatInt_10 fmtiLays (n : Int) (by omega) (by omega) w ht).mono ?_
  rintro e w' ⟨rfl, k, os, rfl⟩
  exact ⟨by rw [itoa_dec], Lib.below_grow _ w (Nat.le_refl _) k os⟩
set_option maxHeartbeats 1000000 in
theorem implName (s : ByteArray) (w : World) (hs : s.size ≤ maxLen) : Calls Tryz.prog 51 #[.string s] w fun x w' => x = .returned (.bool (nameB s)) ∧ w' = w := by
  unfold maxLen at hs
  obtain ⟨A, hA⟩ : ∃ A, nameB s = A := ⟨_, rfl⟩
  rw [hA]
  have HA := hide hA
  clear hA
  have hin := fun w => implWithin (s.size : Int) 1 20 w
  cases h20 : inB (s.size : Int) 1 20
  · rw [h20] at hin
    have HF : Hid (A = false) := by show A = false; rw [← HA.out]; unfold nameB; rw [h20]; simp
    go_enter Tryz.func51, Tryz.ntmps51
    go_wp2_with fail
    refine (hin _).mono ?_; rintro e w1 ⟨rfl, hsame⟩; obtain rfl := hsame.symm; clear hsame
    go_wp2_with fail
    go_ret
    exact ⟨by rw [HF.out]; rfl, rfl⟩
  rw [h20] at hin
  go_enter Tryz.func51, Tryz.ntmps51
  go_wp2_with fail
  refine (hin _).mono ?_; rintro e w1 ⟨rfl, hsame⟩; obtain rfl := hsame.symm; clear hsame
  clear hin
  go_wp2_with fail
  go_loop [10] (fun i => ∃ k : Nat, i = .int .i64 k ∧ k ≤ s.size ∧ Hid (∀ j (hj : j < s.size), j < k → 97 ≤ (s[j].toNat : Int) ∧ (s[j].toNat : Int) ≤ 122)) (fun i => s.size - (intOf i).toNat)
  case atStart => exact ⟨0, rfl, Nat.zero_le _, fun j _ hj => absurd hj (Nat.not_lt_zero _)⟩
  case round =>
    obtain ⟨k, rfl, hk, HN⟩ := hrel
    by_cases hlt : k < s.size
    · have hltI : (k : Int) < s.size := by omega
      obtain ⟨b, hb⟩ : ∃ b, (s[k].toNat : Int) = b := ⟨_, rfl⟩
      have hb0 : 0 ≤ b ∧ b ≤ 255 := by have := s[k].toNat_lt; omega
      have HB := hide hb
      by_cases h1 : b < 97
      · have HF : Hid (A = false) := by show A = false; rw [← HA.out]; exact nameB_no hlt (by rw [hb]; omega)
        go_wp2_with fail
        go_ret
        exact ⟨by rw [HF.out]; rfl, rfl⟩
      · by_cases h2 : 122 < b
        · have HF : Hid (A = false) := by show A = false; rw [← HA.out]; exact nameB_no hlt (by rw [hb]; omega)
          go_wp2_with fail
          go_ret
          exact ⟨by rw [HF.out]; rfl, rfl⟩
        · have HN2 : Hid (∀ j (hj : j < s.size), j < k + 1 → 97 ≤ (s[j].toNat : Int) ∧ (s[j].toNat : Int) ≤ 122) := fun j hj hjk => by
            by_cases e : j = k
            · subst e; rw [HB.out]; omega
            · exact HN.out j hj (by omega)
          go_wp2_with fail
          go_round
          case rel => exact ⟨k + 1, by go_num, by omega, HN2⟩
          case measure => simp [intOf]; omega
    · obtain rfl : k = s.size := by omega
      have HF : Hid (A = true) := by show A = true; rw [← HA.out, ← h20]; exact nameB_yes (fun j hj => HN.out j hj hj)
      go_wp2_with fail
      go_ret
      exact ⟨by rw [HF.out]; rfl, rfl⟩
/-- What strconv and strings read besides: strconv's two errors are there, and a greatest length. -/
def ErrV (w : World) : Prop := (∃ tp p, w.var? Tryz.prog "strconv.ErrSyntax" = some #[.iface tp p]) ∧ (∃ tp p, w.var? Tryz.prog "strconv.ErrRange" = some #[.iface tp p]) ∧ ∃ m, w.cell? ⟨0, 0, none⟩ = some (.int .i64 m)
theorem ErrV.new {w w' : World} (h : ErrV w) (hb : Below w.heap.size w w') : ErrV w' := by
  obtain ⟨⟨t1, p1, h1⟩, ⟨t2, p2, h2⟩, m, hm⟩ := h
  exact ⟨⟨t1, p1, var_new hb h1⟩, ⟨t2, p2, var_new hb h2⟩, m, (hb.cell (Lib.lt_of_cell hm)).trans hm⟩
theorem libParseOk (s : ByteArray) (v : Int) (w : World) (hs : s.size ≤ 281474976710656) (h : Lib.parseIntB 64 s.data.toList = .ok v) : Calls Tryz.prog 70 #[.string s, .int .i64 10, .int .i64 64] w fun e w' => e = .returned (.tuple #[.int .i64 v, .nilIface]) ∧ Below w.heap.size w w' := by
  refine (Any.strconv_ParseInt_10_at64_ok prsiLays s (by omega) v h w).mono ?_
  rintro e w' ⟨rfl, hw⟩
  refine ⟨rfl, ?_⟩
  rcases hw with rfl | ⟨t, rfl⟩
  · exact Below.refl _ _
  · exact Lib.bytesWorld_below _ _ _
theorem libParseNo (s : ByteArray) (w : World) (hs : s.size ≤ 281474976710656) (he : ErrV w) (h : ∀ v, Lib.parseIntB 64 s.data.toList ≠ .ok v) : Calls Tryz.prog 70 #[.string s, .int .i64 10, .int .i64 64] w fun e w' => ∃ x t p, e = .returned (.tuple #[.int .i64 x, .iface t p]) ∧ Below w.heap.size w w' := by
  obtain ⟨⟨t1, p1, h1⟩, ⟨t2, p2, h2⟩, _⟩ := he
  cases hp : Lib.parseIntB 64 s.data.toList with
  | ok v => exact absurd hp (h v)
  | range =>
    refine (Any.strconv_ParseInt_10_at64_range_var prsiLays s hs hp t2 p2 w h2).mono ?_
    rintro e w' ⟨N, rfl, _, _, hb⟩
    exact ⟨_, _, _, rfl, hb⟩
  | _ =>
    refine (Any.strconv_ParseInt_10_at64_syntax_var prsiLays s hs hp t1 p1 w h1).mono ?_
    rintro e w' ⟨N, rfl, _, _, hb⟩
    exact ⟨_, _, _, rfl, hb⟩
theorem libSplit (s : ByteArray) (w : World) (hs : s.size < 4294967281) (he : ErrV w) : Calls Tryz.prog 50 #[.string s, .string ⟨#[46]⟩, .int .i64 3] w fun e w' =>
    e = .returned (.slice (some ⟨w.heap.size, 0, none⟩) (Lib.splitB ⟨#[46]⟩ 0 (min 3 (s.size + 1) - 1) s).length (min 3 (s.size + 1))) ∧ w' = w.alloc (.cells (Lib.cellsOf (Lib.splitB ⟨#[46]⟩ 0 (min 3 (s.size + 1) - 1) s) (min 3 (s.size + 1))) 9) := by
  obtain ⟨_, _, m, hm⟩ := he
  exact Any.strings_SplitN splnLays (by kernel_rfl) s ⟨#[46]⟩ 3 m w hs hm (by decide) (by decide) (by decide)
set_option maxHeartbeats 1000000 in
theorem implNumT (s : ByteArray) (most : Nat) (w : World) (hs : s.size ≤ 2000000) (hm : most ≤ 1000000000000000) (ht : TabV w) (he : ErrV w) : Calls Tryz.prog 52 #[.string s, .int .i64 most] w fun x w' => x = .returned (.tuple #[.int .i64 (numT s most).1, .bool (numT s most).2]) ∧ Below w.heap.size w w' := by
  rcases num_cases s most with ⟨n, hn, e, hv⟩ | ⟨hno, hv⟩
  · rw [hv]
    dsimp only
    have hl : s.data.toList = Lib.decDigits n := by
      have h1 := congrArg ByteArray.data (e.trans (itoa_dec n).symm)
      rw [Lib.itoa, if_neg (by omega), Int.toNat_natCast] at h1
      rw [h1]
    have hp := libParseOk s n w (by omega) (by rw [hl]; exact parse_dec (by omega))
    have hf := fun w' (hb : Below w.heap.size w w') => libFormat n w' (by omega) (ht.new hb)
    rw [← e] at hf
    have hin := fun w => implWithin (n : Int) 0 (most : Int) w
    rw [inB_of (by omega) (by omega)] at hin
    clear ht he hl hv e
    go_enter Tryz.func52, Tryz.ntmps52
    go_wp2_with fail
    refine hp.mono ?_; rintro x w1 ⟨rfl, hb1⟩
    go_wp2_with fail
    refine (hin _).mono ?_; rintro e w1 ⟨rfl, hsame⟩; obtain rfl := hsame.symm; clear hsame
    go_wp2_with fail
    refine (hf _ hb1).mono ?_; rintro x w2 ⟨rfl, hb2⟩
    go_wp2_with fail
    refine bodyPost_ret (v := (.tuple #[.int .i64 n, .bool true])) (by simp [results, Tryz.results52, go_sem, *]) rfl ?_
    exact ⟨rfl, bchain hb1 hb2⟩
  · rw [hv]
    dsimp only
    by_cases hok : ∃ v, Lib.parseIntB 64 s.data.toList = .ok v
    · obtain ⟨v, hok⟩ := hok
      have hp := libParseOk s v w (by omega) hok
      have hin := fun w => implWithin v 0 (most : Int) w
      by_cases hr : 0 ≤ v ∧ v ≤ most
      · rw [inB_of hr.1 hr.2] at hin
        obtain ⟨n, rfl⟩ : ∃ n : Nat, v = n := ⟨v.toNat, by omega⟩
        have hf := fun w' (hb : Below w.heap.size w w') => libFormat n w' (by omega) (ht.new hb)
        have hne := tl_ne (hno n (by omega))
        generalize strOf (decL n) = t at hf hne
        clear ht he hno hv hok
        go_enter Tryz.func52, Tryz.ntmps52
        go_wp2_with fail
        refine hp.mono ?_; rintro x w1 ⟨rfl, hb1⟩
        go_wp2_with fail
        refine (hin _).mono ?_; rintro e w1 ⟨rfl, hsame⟩; obtain rfl := hsame.symm; clear hsame
        go_wp2_with fail
        refine (hf _ hb1).mono ?_; rintro x w2 ⟨rfl, hb2⟩
        go_wp2_with fail
        refine bodyPost_ret (v := (.tuple #[.int .i64 0, .bool false])) (by simp [results, Tryz.results52, go_sem, *]) rfl ?_
        exact ⟨rfl, bchain hb1 hb2⟩
      · rw [inB_not hr] at hin
        clear ht he hno hv hok
        go_enter Tryz.func52, Tryz.ntmps52
        go_wp2_with fail
        refine hp.mono ?_; rintro x w1 ⟨rfl, hb1⟩
        go_wp2_with fail
        refine (hin _).mono ?_; rintro e w1 ⟨rfl, hsame⟩; obtain rfl := hsame.symm; clear hsame
        go_wp2_with fail
        refine bodyPost_ret (v := (.tuple #[.int .i64 0, .bool false])) (by simp [results, Tryz.results52, go_sem, *]) rfl ?_
        exact ⟨rfl, hb1⟩
    · have hp := libParseNo s w (by omega) he (fun v h => hok ⟨v, h⟩)
      clear ht he hno hv hok
      go_enter Tryz.func52, Tryz.ntmps52
      go_wp2_with fail
      refine hp.mono ?_; rintro x w1 ⟨y, t, p, rfl, hb1⟩
      go_wp2_with fail
      refine bodyPost_ret (v := (.tuple #[.int .i64 0, .bool false])) (by simp [results, Tryz.results52, go_sem, *]) rfl ?_
      exact ⟨rfl, hb1⟩
end Go.Proofs.YtfemmnhfllbgjaaGreatDoor
