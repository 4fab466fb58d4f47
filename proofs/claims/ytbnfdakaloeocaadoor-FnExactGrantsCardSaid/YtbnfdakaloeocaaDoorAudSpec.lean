/- Chapter 19's model: Owed, Grants, Begins. -/
import Derived.Test.YtbnfdakaloeocaaDoorAudMath
import Derived.Test.YtbnfdakaloeocaaDoorFrSpec

namespace Go.Proofs.YtbnfdakaloeocaaDoor
open Go.RowKit
set_option maxRecDepth 100000
set_option linter.unusedSimpArgs false
set_option linter.unusedVariables false
/-- Does t begin with s? -/
def begV (s t : ByteArray) : Bool := decide (s.size ≤ t.size) && ((t.extract 0 s.size).toList == s.toList)
set_option maxHeartbeats 4000000 in
theorem specOwed (s : ByteArray) (id : Int) (w : World) (hs : s.size ≤ 2097152) : Calls Tryd.prog 5 #[.string s, .int .i64 id] w fun x w' => x = .returned (.int .i64 (owedV s id)) ∧ Below w.heap.size w w' := by
  obtain ⟨L, hL⟩ : ∃ L, frsV s = L := ⟨_, rfl⟩
  have hsm := owed_small hs id
  have hall := frsV_ok (s := s)
  have hlen := frsV_len s
  have hsp := fun w => specFrames s w hs
  have hV : owedV s id = sumF 1 id bodN L := by rw [← hL]; rfl
  rw [show (frmV s).1 = L from hL] at hsp
  rw [hL] at hsm hall hlen
  rw [hV]
  generalize (frmV s).2.1 = Z1 at hsp
  generalize (frmV s).2.2 = Z2 at hsp
  clear hL hV
  have HSM := hide hsm
  have HALL := hide hall
  clear hsm hall
  go_enter Tryd.func5, Tryd.ntmps5
  go_wp2_with fail
  refine (hsp _).mono ?_; rintro x w1 ⟨v, rfl, ho, hb1⟩
  obtain ⟨hl, ad, cap, rfl, h1, h2, h3⟩ := reads_of_owns ho
  have H3 := hide h3
  have HB1 := hide hb1
  unfold maxLen at h2
  clear h3 ho hb1 hsp
  go_wp2_with fail
  go_loopw [8, 9] (fun n i wr => ∃ (k : Nat), i = .int .i64 k ∧ k ≤ L.length ∧ n = .int .i64 (sumF 1 id bodN (L.take k)) ∧ Below w1.heap.size w1 wr) (fun _ i _ => L.length - (intOf i).toNat)
  case atStart => exact ⟨0, rfl, Nat.zero_le _, rfl, Below.refl _ _⟩
  case round =>
    obtain ⟨k, rfl, hk, rfl, hb⟩ := hrel
    by_cases hlt : k < L.length
    · obtain ⟨b, o, rfl, hbw, hc⟩ := H3.out (by omega)
      obtain ⟨s0, s1, s2, s3⟩ := fr_get L k hlt
      have c0 : wr.cell? ⟨b, o + k * 4, none⟩ = some (.int .i64 L[k].k) := by rw [hb.cell (p := ⟨b, o + k * 4, none⟩) hbw]; exact hc _ _ s0
      have c2 : wr.cell? ⟨b, o + k * 4 + 2, none⟩ = some (.int .i64 L[k].st) := by rw [hb.cell (p := ⟨b, o + k * 4 + 2, none⟩) hbw]; exact hc _ _ s2
      have c3 : wr.cell? ⟨b, o + k * 4 + 3, none⟩ = some (.string L[k].b) := by rw [hb.cell (p := ⟨b, o + k * 4 + 3, none⟩) hbw]; exact hc _ _ s3
      have hsb := hb.size
      have hb1 : b < wr.heap.size := by omega
      have hbody := ok_body (HALL.out L[k] (List.getElem_mem hlt))
      have hT := sumF_take 1 id bodN L k hlt
      have hN1 := HSM.out k
      have hN2 := HSM.out (k + 1)
      clear hc s0 s1 s2 s3
      generalize hn : sumF 1 id bodN (L.take k) = n at *
      obtain ⟨n', hn'⟩ : ∃ n', sumF 1 id bodN (L.take (k + 1)) = n' := ⟨_, rfl⟩
      rw [hn'] at hT hN2
      unfold isF at hT
      unfold bodN at hT
      have HN' := hide hn'
      clear hn hn'
      by_cases e1 : L[k].k = 1
      · by_cases e2 : L[k].st = id
        · have hT' : n' = n + L[k].b.size := by simpa [e1, e2] using hT
          have hw := wrap_mid (n := n + L[k].b.size) (by omega) (by omega)
          have HT := hide hT'
          clear hT hT'
          rw [e1] at c0
          rw [e2] at c2
          go_wp2_with fail
          exact ⟨⟨k + 1, by go_num, by omega, by rw [HN'.out]; exact congrArg _ (by have := HT.out; omega), hb⟩, by simp [intOf]; omega⟩
        · have hT' : n' = n := by simpa [e1, e2] using hT
          have HT := hide hT'
          clear hT hT'
          rw [e1] at c0
          go_wp2_with fail
          exact ⟨⟨k + 1, by go_num, by omega, by rw [HN'.out]; exact congrArg _ (by have := HT.out; omega), hb⟩, by simp [intOf]; omega⟩
      · have hT' : n' = n := by simpa [e1] using hT
        have HT := hide hT'
        clear hT hT'
        go_wp2_with fail
        exact ⟨⟨k + 1, by go_num, by omega, by rw [HN'.out]; exact congrArg _ (by have := HT.out; omega), hb⟩, by simp [intOf]; omega⟩
    · obtain rfl : k = L.length := by omega
      rw [List.take_length]
      go_wp2_with fail
      go_ret
      exact ⟨rfl, bchain HB1.out hb⟩
set_option maxHeartbeats 4000000 in
theorem specGrants (s : ByteArray) (id : Int) (w : World) (hs : s.size ≤ 2097152) : Calls Tryd.prog 7 #[.string s, .int .i64 id] w fun x w' => x = .returned (.int .i64 (grantsV s id)) ∧ Below w.heap.size w w' := by
  obtain ⟨L, hL⟩ : ∃ L, frsV s = L := ⟨_, rfl⟩
  have hsm := grants_small hs id
  have hall := frsV_ok (s := s)
  have hlen := frsV_len s
  have hsp := fun w => specFrames s w hs
  have hV : grantsV s id = sumF 7 id numN L := by rw [← hL]; rfl
  rw [show (frmV s).1 = L from hL] at hsp
  rw [hL] at hsm hall hlen
  rw [hV]
  generalize (frmV s).2.1 = Z1 at hsp
  generalize (frmV s).2.2 = Z2 at hsp
  clear hL hV
  have HSM := hide hsm
  have HALL := hide hall
  clear hsm hall
  go_enter Tryd.func7, Tryd.ntmps7
  go_wp2_with fail
  refine (hsp _).mono ?_; rintro x w1 ⟨v, rfl, ho, hb1⟩
  obtain ⟨hl, ad, cap, rfl, h1, h2, h3⟩ := reads_of_owns ho
  have H3 := hide h3
  have HB1 := hide hb1
  unfold maxLen at h2
  clear h3 ho hb1 hsp
  go_wp2_with fail
  go_loopw [8, 9] (fun n i wr => ∃ (k : Nat), i = .int .i64 k ∧ k ≤ L.length ∧ n = .int .i64 (sumF 7 id numN (L.take k)) ∧ Below w1.heap.size w1 wr) (fun _ i _ => L.length - (intOf i).toNat)
  case atStart => exact ⟨0, rfl, Nat.zero_le _, rfl, Below.refl _ _⟩
  case round =>
    obtain ⟨k, rfl, hk, rfl, hb⟩ := hrel
    by_cases hlt : k < L.length
    · obtain ⟨b, o, rfl, hbw, hc⟩ := H3.out (by omega)
      obtain ⟨s0, s1, s2, s3⟩ := fr_get L k hlt
      have c0 : wr.cell? ⟨b, o + k * 4, none⟩ = some (.int .i64 L[k].k) := by rw [hb.cell (p := ⟨b, o + k * 4, none⟩) hbw]; exact hc _ _ s0
      have c2 : wr.cell? ⟨b, o + k * 4 + 2, none⟩ = some (.int .i64 L[k].st) := by rw [hb.cell (p := ⟨b, o + k * 4 + 2, none⟩) hbw]; exact hc _ _ s2
      have c3 : wr.cell? ⟨b, o + k * 4 + 3, none⟩ = some (.string L[k].b) := by rw [hb.cell (p := ⟨b, o + k * 4 + 3, none⟩) hbw]; exact hc _ _ s3
      have hsb := hb.size
      have hb1 : b < wr.heap.size := by omega
      have hbody := ok_body (HALL.out L[k] (List.getElem_mem hlt))
      have hT := sumF_take 7 id numN L k hlt
      have hN1 := HSM.out k
      have hN2 := HSM.out (k + 1)
      clear hc s0 s1 s2 s3
      generalize hn : sumF 7 id numN (L.take k) = n at *
      obtain ⟨n', hn'⟩ : ∃ n', sumF 7 id numN (L.take (k + 1)) = n' := ⟨_, rfl⟩
      rw [hn'] at hT hN2
      unfold isF at hT
      unfold numN at hT
      have HN' := hide hn'
      clear hn hn'
      by_cases e1 : L[k].k = 7
      · by_cases e2 : L[k].st = id
        · have hT' : n' = n + numV L[k].b := by simpa [e1, e2] using hT
          have hw := wrap_mid (n := n + numV L[k].b) (by omega) (by omega)
          have HT := hide hT'
          clear hT hT'
          rw [e1] at c0
          rw [e2] at c2
          have hnu := fun w => specNumber L[k].b w (by unfold maxLen; omega)
          go_wp2_with fail
          refine (hnu _).mono ?_; rintro e w2 ⟨rfl, hsame⟩; obtain rfl := hsame.symm
          go_wp2_with fail
          exact ⟨⟨k + 1, by go_num, by omega, by rw [HN'.out]; exact congrArg _ (by have := HT.out; omega), hb⟩, by simp [intOf]; omega⟩
        · have hT' : n' = n := by simpa [e1, e2] using hT
          have HT := hide hT'
          clear hT hT'
          rw [e1] at c0
          go_wp2_with fail
          exact ⟨⟨k + 1, by go_num, by omega, by rw [HN'.out]; exact congrArg _ (by have := HT.out; omega), hb⟩, by simp [intOf]; omega⟩
      · have hT' : n' = n := by simpa [e1] using hT
        have HT := hide hT'
        clear hT hT'
        go_wp2_with fail
        exact ⟨⟨k + 1, by go_num, by omega, by rw [HN'.out]; exact congrArg _ (by have := HT.out; omega), hb⟩, by simp [intOf]; omega⟩
    · obtain rfl : k = L.length := by omega
      rw [List.take_length]
      go_wp2_with fail
      go_ret
      exact ⟨rfl, bchain HB1.out hb⟩
end Go.Proofs.YtbnfdakaloeocaaDoor
