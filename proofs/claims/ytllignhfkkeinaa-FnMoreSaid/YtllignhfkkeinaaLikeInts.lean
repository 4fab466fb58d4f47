/- Two rows of numbers held against each other by a law. -/
import Derived.Test.YtllignhfkkeinaaInts

namespace Go.Proofs.Ytllignhfkkeinaa
open Go.RowKit
set_option maxRecDepth 100000
set_option linter.unusedSimpArgs false
set_option linter.unusedVariables false
set_option maxHeartbeats 1000000 in
theorem likeInts1 (L : List Int) (v v' : Value) (w : World) (hr0 : Reads w v L.length 1 (iv L)) (hr1 : Reads w v' L.length 1 (iv L)) :
    Calls Try.prog 11 #[v, v'] w fun x w' => x = .returned (.bool true) ∧ Below w.heap.size w w' := by
  obtain ⟨hl, ad, cap, rfl, h1, h2, h3⟩ := hr0
  obtain ⟨hl', ad', cap', rfl, h1', h2', h3'⟩ := hr1
  have H3 := hide h3
  have H3' := hide h3'
  clear h3 h3'
  unfold maxLen at h2 h2'
  go_enter Try.func11, Try.ntmps11
  go_wp2_with fail
  go_loopw [5] (fun i wr => ∃ (k : Nat), i = .int .i64 k ∧ k ≤ L.length ∧ Below w.heap.size w wr) (fun i _ => L.length - (intOf i).toNat)
  case atStart => exact ⟨0, rfl, Nat.zero_le _, Below.refl _ _⟩
  case round =>
    obtain ⟨k, rfl, hk, hb⟩ := hrel
    by_cases hlt : k < L.length
    · obtain ⟨b, o, rfl, hbw, hc⟩ := H3.out (by omega)
      obtain ⟨b', o', rfl, hbw', hc'⟩ := H3'.out (by omega)
      have hck : wr.cell? ⟨b, o + k, none⟩ = some (.int .i64 L[k]) := by rw [hb.cell (p := ⟨b, o + k, none⟩) hbw]; exact hc k _ (iv_get L k hlt)
      have hck' : wr.cell? ⟨b', o' + k, none⟩ = some (.int .i64 L[k]) := by rw [hb.cell (p := ⟨b', o' + k, none⟩) hbw']; exact hc' k _ (iv_get L k hlt)
      clear hc hc'
      go_wp2_with fail
      go_quiet (fail)
      go_wp2_with fail
      go_roundw
      case rel => exact ⟨k + 1, by go_num, by omega, bo_drewN _ hb⟩
      case measure => simp [intOf]; omega
    · go_wp2_with fail
      go_ret
      exact ⟨rfl, hb⟩

end Go.Proofs.Ytllignhfkkeinaa
