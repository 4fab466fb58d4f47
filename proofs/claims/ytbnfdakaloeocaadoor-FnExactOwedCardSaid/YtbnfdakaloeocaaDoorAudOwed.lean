/- Chapter 19, the program: impl.Owed sums over the Frames that framesOf keeps. -/
import Derived.Test.YtbnfdakaloeocaaDoorAudFrames

namespace Go.Proofs.YtbnfdakaloeocaaDoor
open Go.RowKit
set_option maxRecDepth 100000
set_option linter.unusedSimpArgs false
set_option linter.unusedVariables false
theorem keep_small1 {s : ByteArray} (hs : s.size ≤ 2097152) (id : Int) (i : Nat) : -9007199254740992 ≤ sumF 1 id bodN ((keepF 1 id (frsV s)).take i) ∧ sumF 1 id bodN ((keepF 1 id (frsV s)).take i) ≤ 9007199254740992 := by
  refine sumF_small (M := 4294967296) (by omega) (by omega) (fun f hf => ?_) ?_
  · have := ok_body (frsV_ok f (keepF_mem (mem_take hf))); unfold bodN; omega
  · have := frsV_len s
    have := keepF_len 1 id (frsV s)
    have : ((keepF 1 id (frsV s)).take i).length ≤ (keepF 1 id (frsV s)).length := by rw [List.length_take]; omega
    omega
set_option maxHeartbeats 4000000 in
theorem implOwed (s : ByteArray) (id : Int) (a0 a2 : Addr) (w : World) (hs : s.size ≤ 2097152) (he : Errs w a0 a2) : Calls Tryd.prog 6 #[.string s, .int .i64 id] w fun x w' => x = .returned (.int .i64 (owedV s id)) ∧ Below w.heap.size w w' := by
  have hsp := fun w he => implFramesOf s 1 id a0 a2 w hs he
  have hsm := hide (keep_small1 hs id)
  have hst := hide (fun i h => sumF_keep_take (k := 1) (id := id) bodN (L := frsV s) i h)
  have hbd := hide (fun f (hf : f ∈ keepF 1 id (frsV s)) => ok_body (frsV_ok f (keepF_mem hf)))
  have hV : Hid (sumF 1 id bodN (keepF 1 id (frsV s)) = owedV s id) := sumF_keep 1 id bodN (frsV s)
  have hl : (keepF 1 id (frsV s)).length ≤ 2097152 := Nat.le_trans (keepF_len 1 id (frsV s)) (Nat.le_trans (frsV_len s) hs)
  obtain ⟨R, hR⟩ : ∃ R, owedV s id = R := ⟨_, rfl⟩
  rw [hR] at hV ⊢
  generalize keepF 1 id (frsV s) = M at *
  have HE := hide he
  clear he hR
  go_enter Tryd.func6, Tryd.ntmps6
  go_wp2_with fail
  refine (hsp _ HE.out).mono ?_; rintro x w1 ⟨v, rfl, ho, hb1⟩
  obtain ⟨hl0, ad, cap, rfl, h1, h2, h3⟩ := reads_of_owns ho
  have H3 := hide h3
  have HB1 := hide hb1
  unfold maxLen at h2
  clear h3 ho hb1 hsp HE
  go_wp2_with fail
  go_loopg [5, 12] M.length (fun g n i wr => ∃ (k : Nat), k + g = M.length ∧ i = .int .i64 k ∧ n = .int .i64 (sumF 1 id bodN (M.take k)) ∧ Hid (Below w1.heap.size w1 wr))
  case atStart => exact ⟨0, by omega, rfl, rfl, Below.refl _ _⟩
  case round =>
    obtain ⟨k, hkg, rfl, rfl, HB⟩ := hrel
    cases gk with
    | zero =>
      obtain rfl : k = M.length := by omega
      clear hkg
      rw [List.take_length, hV.out]
      go_wp2_with fail
      try rw [Exit.noGoto_ret]
      go_ret
      exact ⟨rfl, bchain HB1.out HB.out⟩
    | succ g1 =>
      have hlt : k < M.length := by omega
      obtain ⟨b, o, rfl, hbw, hc⟩ := H3.out (by omega)
      obtain ⟨s0, s1, s2, s3⟩ := fr_get M k hlt
      have c0 : wr.cell? ⟨b, o + k * 4, none⟩ = some (.int .i64 M[k].k) := by rw [HB.out.cell (p := ⟨b, o + k * 4, none⟩) hbw]; exact hc _ _ s0
      have c1 : wr.cell? ⟨b, o + k * 4 + 1, none⟩ = some (.int .i64 M[k].fl) := by rw [HB.out.cell (p := ⟨b, o + k * 4 + 1, none⟩) hbw]; exact hc _ _ s1
      have c2 : wr.cell? ⟨b, o + k * 4 + 2, none⟩ = some (.int .i64 M[k].st) := by rw [HB.out.cell (p := ⟨b, o + k * 4 + 2, none⟩) hbw]; exact hc _ _ s2
      have c3 : wr.cell? ⟨b, o + k * 4 + 3, none⟩ = some (.string M[k].b) := by rw [HB.out.cell (p := ⟨b, o + k * 4 + 3, none⟩) hbw]; exact hc _ _ s3
      have hbody := hbd.out M[k] (List.getElem_mem hlt)
      have hT := hst.out k hlt
      have hN1 := hsm.out k
      have hN2 := hsm.out (k + 1)
      clear hc s0 s1 s2 s3
      obtain ⟨F, he⟩ : ∃ F, M[k] = F := ⟨_, rfl⟩
      rw [he] at c0 c1 c2 c3 hbody hT
      clear he
      generalize hn : sumF 1 id bodN (M.take k) = n at *
      obtain ⟨n', hn'⟩ : ∃ n', sumF 1 id bodN (M.take (k + 1)) = n' := ⟨_, rfl⟩
      rw [hn'] at hT hN2
      unfold bodN at hT
      have HN' := hide hn'
      clear hn hn'
      have hw := wrap_mid (n := n + F.b.size) (by omega) (by omega)
      have HT := hide hT
      clear hT
      go_upto_region 5 with fail
      have hbe : Below wr.heap.size wr (wr.alloc (.cells #[.int .i64 F.k, .int .i64 F.fl, .int .i64 F.st, .string F.b] 28)) := (Below.refl _ _).alloc (Nat.le_refl _) _
      have RX := rowIs_new wr 28 [.int .i64 F.k, .int .i64 F.fl, .int .i64 F.st, .string F.b]
      have HBX := hide (bchain HB.out hbe)
      generalize wr.alloc (.cells #[.int .i64 F.k, .int .i64 F.fl, .int .i64 F.st, .string F.b] 28) = X at *
      have hlX := RX.lt
      have e3 := RX.cell (j := 3) rfl
      clear RX hbe c0 c1 c2 c3 HB
      go_wp2_with fail
      go_roundg g1
      case measure => omega
      case rel => exact ⟨k + 1, by omega, by go_num, by rw [HN'.out]; exact congrArg _ (by have := HT.out; omega), HBX⟩
end Go.Proofs.YtbnfdakaloeocaaDoor
