/- What chapter 3's law draws: some numbers and a text, whatever they are; of what was there the cursor alone has moved. -/
import Derived.Test.YtjnbnbpjckodbaaBend2
import Derived.Test.YtjnbnbpjckodbaaOpenCode
import Derived.Test.YtjnbnbpjckodbaaPrefixSpec
import Derived.Handy
namespace Go.Proofs.Ytjnbnbpjckodbaa
open Go.RowKit
set_option linter.unusedSimpArgs false
set_option linter.unusedVariables false

theorem pow28 (t : Int) (h0 : 0 ≤ t) (h1 : t < 28) : 2 ≤ (2 : Int) ^ (1 + t).toNat ∧ (2 : Int) ^ (1 + t).toNat ≤ 268435456 := by
  have key : ∀ k : Fin 28, 2 ≤ (2 : Int) ^ (1 + k.val) ∧ (2 : Int) ^ (1 + k.val) ≤ 268435456 := by decide
  have e : (1 + t).toNat = 1 + t.toNat := by omega
  rw [e]
  exact key ⟨t.toNat, by omega⟩

theorem ints_at (xs : List Int) (w : World) (t : Nat) (ht : t < xs.length) : ∃ z : Int, (w.alloc (.cells (xs.map (Value.int .i64)).toArray 2)).cell? ⟨w.heap.size, t, none⟩ = some (.int .i64 z) := by
  refine ⟨xs[t], ?_⟩
  simp [ht]

set_option maxHeartbeats 1000000 in
theorem num3 (g B : Nat) (w : World) (hc : Cur w g B) :
    Calls Try.prog 22 #[.pointer (some ⟨g, 0, none⟩)] w fun e w' => ∃ x : Int, e = .returned (.int .i64 x) ∧ Cur w' g B ∧ Moves g w w' := by
  have hgw := hc.lt
  go_enter Try.func22, Try.ntmps22
  go_wp2_with fail
  refine (once1 g B 5 _ hc (by omega)).mono ?_; rintro e w1 ⟨v, rfl, hc1, hm1⟩
  have hs1 := hm1.size
  cases v
  · go_wp2_with fail
    refine (below1 g B 28 _ hc1 (by omega)).mono ?_; rintro e w2 ⟨t, t0, t1, t2, rfl, hc2, hm2⟩
    have t3 := t1 (by omega)
    obtain ⟨p1, p2⟩ := pow28 t t0 t3
    go_wp2_with fail
    refine (below1 g B _ _ hc2 (by omega)).mono ?_; rintro e w3 ⟨x, x0, x1, x2, rfl, hc3, hm3⟩
    go_wp2_with fail
    go_ret
    exact ⟨x, rfl, hc3, (hm1.trans hm2).trans hm3⟩
  · go_wp2_with fail
    refine (below1 g B 8 _ (hc1.alloc _) (by omega)).mono ?_; rintro e w2 ⟨t, t0, t1, t2, rfl, hc2, hm2⟩
    have t3 := t1 (by omega)
    obtain ⟨t, rfl⟩ : ∃ t' : Nat, t = t' := ⟨t.toNat, by omega⟩
    obtain ⟨z, hz⟩ := ints_at [-1, 0, 268435456, 268435457, 127, 128, 255, 4611686018427387904] w1 t (by simp; omega)
    have hz2 := (hm2.cell w1.heap.size t (by simp) (by omega)).trans hz
    clear hz
    go_wp2_with fail
    go_ret
    exact ⟨z, rfl, hc2, (hm1.alloc _).trans hm2⟩

set_option maxHeartbeats 1000000 in
theorem bits3 (g B : Nat) (w : World) (hc : Cur w g B) :
    Calls Try.prog 23 #[.pointer (some ⟨g, 0, none⟩)] w fun e w' => ∃ x : Int, e = .returned (.int .i64 x) ∧ Cur w' g B ∧ Moves g w w' := by
  have hgw := hc.lt
  go_enter Try.func23, Try.ntmps23
  go_wp2_with fail
  refine (once1 g B 10 _ hc (by omega)).mono ?_; rintro e w1 ⟨v, rfl, hc1, hm1⟩
  have hs1 := hm1.size
  cases v
  · go_wp2_with fail
    refine (below1 g B 8 _ hc1 (by omega)).mono ?_; rintro e w2 ⟨t, t0, t1, t2, rfl, hc2, hm2⟩
    go_wp2_with fail
    go_ret
    exact ⟨_, rfl, hc2, hm1.trans hm2⟩
  · go_wp2_with fail
    refine (below1 g B 3 _ (hc1.alloc _) (by omega)).mono ?_; rintro e w2 ⟨t, t0, t1, t2, rfl, hc2, hm2⟩
    have t3 := t1 (by omega)
    obtain ⟨t, rfl⟩ : ∃ t' : Nat, t = t' := ⟨t.toNat, by omega⟩
    obtain ⟨z, hz⟩ := ints_at [0, 9, -1] w1 t (by simp; omega)
    have hz2 := (hm2.cell w1.heap.size t (by simp) (by omega)).trans hz
    clear hz
    go_wp2_with fail
    go_ret
    exact ⟨z, rfl, hc2, (hm1.alloc _).trans hm2⟩

set_option maxHeartbeats 1000000 in
theorem drawWidth (a : Option Addr) (len cap : Nat) (w : World) (hl : len ≤ 4096) (hcode : CodeAt w a len w.heap.size) :
    Calls Try.prog 14 #[.slice a len cap] w fun e w' => ∃ n b : Int, e = .returned (.tuple #[.int .i64 n, .int .i64 b]) ∧ Below w.heap.size w w' := by
  go_enter Try.func14, Try.ntmps14
  go_wp2_with fail
  refine (new1 a len cap _ hl hcode).mono ?_; rintro x w1 ⟨g, rfl, hg, hc1, hb1⟩
  go_wp2_with fail
  refine (num3 g _ _ hc1).mono ?_; rintro x w2 ⟨n, rfl, hc2, hm2⟩
  go_wp2_with fail
  refine (bits3 g _ _ hc2).mono ?_; rintro x w3 ⟨b, rfl, hc3, hm3⟩
  go_wp2_with fail
  go_ret2
  exact ⟨n, b, rfl, hb1.trans ((hm2.trans hm3).below hg hb1.size)⟩

set_option maxHeartbeats 1000000 in
theorem drawPrefixed (a : Option Addr) (len cap : Nat) (w : World) (hl : len ≤ 4096) (hcode : CodeAt w a len w.heap.size) :
    Calls Try.prog 9 #[.slice a len cap] w fun e w' => ∃ n b h : Int, e = .returned (.tuple #[.int .i64 n, .int .i64 b, .int .i64 h]) ∧ Below w.heap.size w w' := by
  go_enter Try.func9, Try.ntmps9
  go_wp2_with fail
  refine (new1 a len cap _ hl hcode).mono ?_; rintro x w1 ⟨g, rfl, hg, hc1, hb1⟩
  go_wp2_with fail
  refine (num3 g _ _ hc1).mono ?_; rintro x w2 ⟨n, rfl, hc2, hm2⟩
  go_wp2_with fail
  refine (bits3 g _ _ hc2).mono ?_; rintro x w3 ⟨b, rfl, hc3, hm3⟩
  go_wp2_with fail
  refine (byte1 g _ _ hc3).mono ?_; rintro x w4 ⟨h, h0, h1, rfl, hc4, hm4⟩
  go_wp2_with fail
  refine (once1 g _ 5 _ hc4 (by omega)).mono ?_; rintro e w5 ⟨v, rfl, hc5, hm5⟩
  have hB : Below w.heap.size w w5 := hb1.trans ((((hm2.trans hm3).trans hm4).trans hm5).below hg hb1.size)
  by_cases hv : v = false ∧ 1 ≤ b ∧ b ≤ 8
  · obtain ⟨rfl, hb1', hb8⟩ := hv
    obtain ⟨p1, p2⟩ := pw_lo hb1' hb8
    have hpw : (2 : Int) ^ b.toNat = pw b := rfl
    go_wp2_with fail
    refine bodyPost_ret (v := .tuple #[.int .i64 n, .int .i64 b, .int .i64 (wrap64 (h / pw b * pw b))]) (by simp [results, Try.results9, go_sem]) rfl ?_
    first | exact ⟨n, b, _, rfl, hB⟩ | exact ⟨⟨n, b, _, rfl⟩, hB⟩
  · cases v
    · by_cases hb1' : 1 ≤ b
      · have hb8 : ¬ b ≤ 8 := fun h => hv ⟨rfl, hb1', h⟩
        clear hv
        go_wp2_with fail
        refine bodyPost_ret (v := .tuple #[.int .i64 n, .int .i64 b, .int .i64 h]) (by simp [results, Try.results9, go_sem]) rfl ?_
        first | exact ⟨n, b, _, rfl, hB⟩ | exact ⟨⟨n, b, _, rfl⟩, hB⟩
      · clear hv
        go_wp2_with fail
        refine bodyPost_ret (v := .tuple #[.int .i64 n, .int .i64 b, .int .i64 h]) (by simp [results, Try.results9, go_sem]) rfl ?_
        first | exact ⟨n, b, _, rfl, hB⟩ | exact ⟨⟨n, b, _, rfl⟩, hB⟩
    · clear hv
      go_wp2_with fail
      refine bodyPost_ret (v := .tuple #[.int .i64 n, .int .i64 b, .int .i64 h]) (by simp [results, Try.results9, go_sem]) rfl ?_
      first | exact ⟨n, b, _, rfl, hB⟩ | exact ⟨⟨n, b, _, rfl⟩, hB⟩

set_option maxHeartbeats 1000000 in
theorem drawRead (a : Option Addr) (len cap : Nat) (w : World) (hl : len ≤ 4096) (hcode : CodeAt w a len w.heap.size) :
    Calls Try.prog 11 #[.slice a len cap] w fun e w' => ∃ (s : ByteArray) (b : Int), s.size ≤ 100 ∧ e = .returned (.tuple #[.string s, .int .i64 b]) ∧ Below w.heap.size w w' := by
  go_enter Try.func11, Try.ntmps11
  go_wp2_with fail
  refine (new1 a len cap _ hl hcode).mono ?_; rintro x w1 ⟨g, rfl, hg, hc1, hb1⟩
  go_wp2_with fail
  refine (bits3 g _ _ hc1).mono ?_; rintro x w2 ⟨b, rfl, hc2, hm2⟩
  go_wp2_with fail
  refine (num3 g _ _ hc2).mono ?_; rintro x w3 ⟨n, rfl, hc3, hm3⟩
  go_wp2_with fail
  refine (specRight n b _).mono ?_; rintro x w4 ⟨rfl, rfl⟩
  have hB3 : Below w.heap.size w w4 := hb1.trans ((hm2.trans hm3).below hg hb1.size)
  cases hok : okN n b
  · go_wp2_with fail
    refine (text1 g _ 3 _ hc3 (by omega) (by omega)).mono ?_; rintro x w5 ⟨s, hs, rfl, hc5, hm5⟩
    have hs100 : s.size ≤ 3 := by omega
    go_wp2_with fail
    refine (once1 g _ 3 _ hc5 (by omega)).mono ?_; rintro x w6 ⟨v, rfl, hc6, hm6⟩
    have hB6 : Below w.heap.size w w6 := hB3.trans ((hm5.trans hm6).below hg hB3.size)
    have hz : ((⟨#[]⟩ : ByteArray) ++ s).size ≤ 9 := by
      rw [ByteArray.size_append]
      have : (⟨#[]⟩ : ByteArray).size = 0 := rfl
      omega
    cases v
    · go_wp2_with fail
      go_ret2
      exact ⟨_, b, by omega, rfl, hB6⟩
    · go_wp2_with fail
      refine (bend1 g _ ((⟨#[]⟩ : ByteArray) ++ s) ⟨#[0, 128, 255, 1]⟩ _ hc6 (by omega) (by decide) (by decide)).mono ?_; rintro x w7 ⟨u, hu, rfl, hc7, hm7⟩
      go_wp2_with fail
      go_ret2
      exact ⟨u, b, by omega, rfl, hB6.trans (hm7.below hg hB6.size)⟩
  · obtain ⟨hn0, hn, h1, h8⟩ := okN_true hok
    obtain ⟨hp1, hp2⟩ := pw_lo h1 h8
    go_wp2_with fail
    refine (specL3 n b 0 _ hn0 hn h1 h8 (by omega) (by omega)).mono ?_; rintro x w5 ⟨rfl, hb5⟩
    obtain ⟨S, hS⟩ : ∃ S, strOf (addHead 0 (bytesOf n (pw b - 1))) = S := ⟨_, rfl⟩
    have hSs : S.size ≤ 6 := by rw [← hS, strOf_size, addHead_len]; exact (bytesOf_len n _).2
    rw [hS]
    clear hS
    go_wp2_with fail
    have hc5 := hc3.below hb5
    have hB5 : Below w.heap.size w w5 := hB3.trans (hb5.mono hB3.size)
    refine (text1 g _ 3 _ hc5 (by omega) (by omega)).mono ?_; rintro x w6 ⟨s, hs, rfl, hc6, hm6⟩
    have hs100 : s.size ≤ 3 := by omega
    go_wp2_with fail
    refine (once1 g _ 3 _ hc6 (by omega)).mono ?_; rintro x w7 ⟨v, rfl, hc7, hm7⟩
    have hB6 : Below w.heap.size w w7 := hB5.trans ((hm6.trans hm7).below hg hB5.size)
    have hz : (S ++ s).size ≤ 9 := by simp [ByteArray.size_append]; omega
    cases v
    · go_wp2_with fail
      go_ret2
      exact ⟨_, b, by omega, rfl, hB6⟩
    · go_wp2_with fail
      refine (bend1 g _ (S ++ s) ⟨#[0, 128, 255, 1]⟩ _ hc7 (by omega) (by decide) (by decide)).mono ?_; rintro x w8 ⟨u, hu, rfl, hc8, hm8⟩
      go_wp2_with fail
      go_ret2
      exact ⟨u, b, by omega, rfl, hB6.trans (hm8.below hg hB6.size)⟩

set_option maxHeartbeats 1000000 in
theorem drawHigh (a : Option Addr) (len cap : Nat) (w : World) (hl : len ≤ 4096) (hcode : CodeAt w a len w.heap.size) :
    Calls Try.prog 13 #[.slice a len cap] w fun e w' => ∃ (s : ByteArray) (b : Int), s.size ≤ 100 ∧ e = .returned (.tuple #[.string s, .int .i64 b]) ∧ Below w.heap.size w w' := by
  go_enter Try.func13, Try.ntmps13
  go_wp2_with fail
  refine (drawRead a len cap _ hl hcode).mono ?_; rintro x w1 ⟨s, b, hs, rfl, hb1⟩
  go_wp2_with fail
  go_ret2
  exact ⟨s, b, hs, rfl, hb1⟩
end Go.Proofs.Ytjnbnbpjckodbaa
