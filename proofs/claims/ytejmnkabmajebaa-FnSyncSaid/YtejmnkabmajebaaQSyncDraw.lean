/- What FnSync picks: a small number of the bytes, and its digits. -/
import Derived.Test.YtejmnkabmajebaaQG2
import Derived.Test.YtejmnkabmajebaaQG3
import Derived.Test.YtejmnkabmajebaaQBM
namespace Go.Proofs.Ytejmnkabmajebaa
open Go.RowKit
set_option maxRecDepth 100000
set_option linter.unusedSimpArgs false
set_option linter.unusedVariables false

set_option maxHeartbeats 1000000 in
theorem pick1 (a : Option Addr) (len cap : Nat) (seed n : Int) (B : Nat) (w : World) (hl : len ≤ 4096) (hcode : CodeAt w a len B) (hs0 : 0 ≤ seed) (hs1 : seed ≤ 1000) (hn0 : 0 < n) (hn1 : n ≤ 1000) :
    Calls Try.prog 24 #[.slice a len cap, .int .i64 seed, .int .i64 n] w fun x w' => ∃ z : Int, 0 ≤ z ∧ z < n ∧ x = .returned (.int .i64 z) ∧ w' = w := by
  have HC := hide hcode
  clear hcode
  go_enter Try.func24, Try.ntmps24
  go_wp2_with fail
  go_loopw [7, 8] (fun k i wr => ∃ (j : Nat) (z : Int), i = .int .i64 j ∧ k = .int .i64 z ∧ 0 ≤ z ∧ z ≤ 10000000 ∧ j ≤ len ∧ wr = w) (fun _ i _ => len - (intOf i).toNat)
  case atStart => exact ⟨0, _, rfl, rfl, by omega, by omega, Nat.zero_le _, rfl⟩
  case round =>
    obtain ⟨j, z, rfl, rfl, z0, z1, hj, rfl⟩ := hrel
    by_cases hlt : j < len
    · obtain ⟨b, o, c, rfl, hb, c0, c1, hc⟩ := HC.out j hlt
      have hm := emod_lt_of (x := z * 173 + c + seed) (n := 1000003) (by omega) (by omega)
      go_wp2_with fail
      exact ⟨⟨j + 1, _, by go_num, rfl, by omega, by omega, by omega, trivial⟩, by simp [intOf]; omega⟩
    · have hm := emod_lt_of (x := z) (n := n) z0 hn0
      go_wp2_with fail
      go_ret
      exact ⟨_, hm.1, hm.2, rfl, rfl⟩

theorem digits1 (n : Int) (w : World) (h0 : 0 ≤ n) (h1 : n ≤ 9) :
    Calls Try.prog 25 #[.int .i64 n] w fun x w' => ∃ t : ByteArray, t.size = 1 ∧ x = .returned (.string t) ∧ Below w.heap.size w w' := by
  have hm : n % 10 = n := by omega
  have hd : n / 10 = 0 := by omega
  obtain ⟨t, ht⟩ : ∃ t, strOf [48 + n] = t := ⟨_, rfl⟩
  have hts : t.size = 1 := by rw [← ht, strOf_size]; rfl
  have hlt : 0 < t.size := by omega
  go_enter Try.func25, Try.ntmps25
  go_wp2_with fail
  go_loopw [0, 3] (fun k s wr => (k = .int .i64 n ∧ s = .string ⟨#[]⟩ ∧ wr = w) ∨ (k = .int .i64 0 ∧ s = .string t ∧ Below w.heap.size w wr)) (fun _ s _ => match s with | .string s => 1 - s.size | _ => 0)
  case atStart => exact .inl ⟨rfl, rfl, rfl⟩
  case round =>
    rcases hrel with ⟨rfl, rfl, rfl⟩ | ⟨rfl, rfl, hb⟩
    · have hcv := row_string (l := [48 + n]) (ownsRow_one wr 5 (.int .u8 (48 + n))) (by intro x hx; simp at hx; omega)
      rw [ht] at hcv
      go_wp2_with fail
      rw [hd, ba_append_nil]
      exact ⟨.inr ⟨rfl, rfl, (Below.refl _ _).alloc (Nat.le_refl _) _⟩, by show 1 - t.size < 1; omega⟩
    · have hne := list_ne hlt
      have hne2 := list_isEmpty hlt
      go_wp2_with fail
      go_ret
      exact ⟨t, hts, rfl, hb⟩
end Go.Proofs.Ytejmnkabmajebaa
