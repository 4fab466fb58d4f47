/- The marks that the laws write into texts. -/
import Derived.Test.YtelcnojmfkoboaaDoorStrOf
import Derived.WalkKit
import Derived.ProofKit
import Derived.Handy

namespace Go.Proofs.YtelcnojmfkoboaaDoor
open Go.RowKit
set_option maxRecDepth 100000
set_option linter.unusedSimpArgs false
set_option linter.unusedVariables false

def mtF : Nat → Nat → ByteArray → ByteArray
  | 0, _, acc => acc
  | n + 1, k, acc => if k = 0 then acc else mtF n (k / 10) (strOf [48 + ((k % 10 : Nat) : Int)] ++ acc)
theorem mtF_zero (n : Nat) (acc : ByteArray) : mtF n 0 acc = acc := by cases n <;> simp [mtF]
theorem mtF_step {n k : Nat} (h : 0 < k) (hn : k ≤ n) (acc : ByteArray) : ∃ n', k / 10 ≤ n' ∧ mtF n k acc = mtF n' (k / 10) (strOf [48 + ((k % 10 : Nat) : Int)] ++ acc) := by
  cases n with
  | zero => omega
  | succ n => exact ⟨n, by omega, by simp [mtF, Nat.pos_iff_ne_zero.1 h]⟩
/-- What markText answers at k. -/
def mtx (k : Nat) : ByteArray := if k = 0 then ⟨#[109, 48]⟩ else ⟨#[109]⟩ ++ mtF k k ⟨#[]⟩

set_option maxHeartbeats 1000000 in
theorem markTx (k : Nat) (w : World) (hk : k ≤ 1000000000) :
    Calls Tryd.prog 53 #[.int .i64 k] w fun x w' => x = .returned (.string (mtx k)) ∧ Below w.heap.size w w' := by
  by_cases h0 : k = 0
  · subst h0
    go_enter Tryd.func53, Tryd.ntmps53
    go_wp2_with fail
    go_ret
    exact ⟨rfl, (by repeat' (first | (with_reducible exact Below.refl _ _) | (with_reducible refine Below.drew ?_) | (with_reducible refine bo_drewN _ ?_) | (with_reducible refine bo_alloc ?_ _) | (refine bchain ?_ (by with_reducible assumption)) | (with_reducible refine Below.setCell ?_ ?_ _) | go_size))⟩
  · obtain ⟨R, hR⟩ : ∃ R, R = mtF k k ⟨#[]⟩ := ⟨_, rfl⟩
    have hm : mtx k = ⟨#[109]⟩ ++ R := by simp [mtx, h0, hR]
    rw [hm]
    clear hm
    have HR0 : Hid _ := hR
    clear hR
    go_enter Tryd.func53, Tryd.ntmps53
    go_wp2_with fail
    go_loopw [0, 3] (fun kv ov wr => ∃ (j n : Nat) (acc : ByteArray), kv = .int .i64 j ∧ ov = .string acc ∧ j ≤ n ∧ j ≤ 1000000000 ∧ acc.size + j ≤ 2000000000 ∧ R = mtF n j acc ∧ Below w.heap.size w wr) (fun kv _ _ => (intOf kv).toNat)
    case atStart => exact ⟨k, k, ⟨#[]⟩, rfl, rfl, Nat.le_refl _, hk, by simp [ByteArray.size]; omega, HR0.out, Below.refl _ _⟩
    case round =>
      obtain ⟨j, n, acc, rfl, rfl, hjn, hj, hsz, hRj, hb⟩ := hrel
      by_cases hpos : 0 < j
      · obtain ⟨n', hn', he⟩ := mtF_step hpos hjn acc
        have HR := (show Hid _ from hRj.trans he)
        clear hRj he
        have hcv := row_string (l := [48 + ((j % 10 : Nat) : Int)]) (ownsRow_one wr 5 (Value.int .u8 (48 + ((j % 10 : Nat) : Int)))) (by intro x hx; simp at hx; omega)
        have hs1 := strOf_size [48 + ((j % 10 : Nat) : Int)]
        obtain ⟨d, hd⟩ : ∃ d : Int, d = 48 + ((j % 10 : Nat) : Int) := ⟨_, rfl⟩
        rw [← hd] at hcv hs1 HR
        have hd1 : (48 : Int) + (j : Int) % 10 = d := by omega
        obtain ⟨S, hS⟩ : ∃ S, S = strOf [d] := ⟨_, rfl⟩
        rw [← hS] at hcv hs1 HR
        simp only [List.length_singleton, List.map_cons, List.map_nil] at hs1 hcv
        have hz : ¬ 9223372036854775807 < S.size + acc.size := by omega
        clear hS hd HR0
        go_wp2_with fail
        exact ⟨⟨j / 10, n', _, by go_num, rfl, hn', by omega, by rw [ByteArray.size_append]; omega, HR.out, bo_alloc hb _⟩, by simp [intOf]; omega⟩
      · obtain rfl : j = 0 := by omega
        rw [mtF_zero] at hRj
        have hz : ¬ 9223372036854775807 < 1 + acc.size := by omega
        subst hRj
        clear HR0
        go_wp2_with fail
        go_ret
        exact ⟨rfl, hb⟩
end Go.Proofs.YtelcnojmfkoboaaDoor
