/- Chapter 19, the program: framesOf keeps those Frames that are of one Kind and Stream. -/
import Derived.Test.YtbnfdakaloeocaaDoorAudFrames1
import Derived.Test.YtbnfdakaloeocaaDoorFrReads
import Derived.Test.YtbnfdakaloeocaaDoorRowNew
import Derived.Deep.RegionHeld3
import Derived.Deep.LoopGhost
import Derived.WalkMore
import Derived.Deep.Cut
import Derived.Deep.DeepCutAuto


namespace Go.Proofs.YtbnfdakaloeocaaDoor
open Go.RowKit
set_option maxRecDepth 100000
set_option linter.unusedSimpArgs false
set_option linter.unusedVariables false
set_option maxHeartbeats 4000000 in
theorem implOnlyF (L : List Fr) (k id : Int) (v : Value) (fa : Addr) (g1 g2 : Nat) (w : World) (hL : L.length ≤ 2097152) (hr : Reads w v L.length 4 (fr L)) (hf : w.cell? fa = some (.func (.func 17) #[] #[.pointer (some ⟨g1, 0, none⟩), .pointer (some ⟨g2, 0, none⟩)])) (lf : fa.block < w.heap.size)
    (h1 : w.cell? ⟨g1, 0, none⟩ = some (.int .i64 k)) (h2 : w.cell? ⟨g2, 0, none⟩ = some (.int .i64 id)) (l1 : g1 < w.heap.size) (l2 : g2 < w.heap.size) :
    Calls Tryd.prog 16 #[v, .slice (some fa) 1 1] w fun x w' => ∃ v', x = .returned v' ∧ w'.ownsRow w.heap.size 28 4 v' (keepF k id L).length (fr (keepF k id L)) ∧ Below w.heap.size w w' := by
  obtain ⟨hl, ad, cap, rfl, hl2, hcap, h3⟩ := hr
  have H3 := hide h3
  have HF := hide hf
  have H1 := hide h1
  have H2 := hide h2
  clear h3 hf h1 h2
  unfold maxLen at hcap
  go_enter Tryd.func16, Tryd.ntmps16
  go_wp2_with fail
  go_step3
  go_wp2_with fail
  go_step3
  go_wp2_with fail
  go_loopg [5, 12] L.length (fun g s i wr => ∃ (n : Nat) (a : Option Addr) (p : Nat) (M : List Fr), n + g = L.length ∧ i = .int .i64 n ∧ s = .slice a M.length p ∧ Hid (keepF k id (L.take n) = M) ∧ Hid (wr.ownsRow w.heap.size 28 4 (.slice a M.length p) M.length (fr M)) ∧ Hid (Below w.heap.size w wr))
  case atStart => exact ⟨0, none, 0, [], by omega, rfl, rfl, rfl, World.ownsRow_nil w w.heap.size 28 4, Below.refl _ _⟩
  case round =>
    obtain ⟨n, a, p, M, hkg, rfl, rfl, HM, HO, HB⟩ := hrel
    cases gk with
    | zero =>
      have hkz : ¬ ((n : Int) < (L.length : Int)) := by omega
      have HMM : Hid (M = keepF k id L) := by show M = _; rw [← HM.out, List.take_of_length_le (by omega)]
      clear hkg
      go_wp2_with fail
      try rw [Exit.noGoto_ret]
      go_ret
      have := HMM.out
      subst this
      exact ⟨_, rfl, HO.out, HB.out⟩
    | succ go1 =>
      have hlt : n < L.length := by omega
      obtain ⟨b, o, rfl, hbw, hc⟩ := H3.out (by omega)
      obtain ⟨s0, s1, s2, s3⟩ := fr_get L n hlt
      have c0 : wr.cell? ⟨b, o + n * 4, none⟩ = some (.int .i64 L[n].k) := by rw [HB.out.cell (p := ⟨b, o + n * 4, none⟩) hbw]; exact hc _ _ s0
      have c1 : wr.cell? ⟨b, o + n * 4 + 1, none⟩ = some (.int .i64 L[n].fl) := by rw [HB.out.cell (p := ⟨b, o + n * 4 + 1, none⟩) hbw]; exact hc _ _ s1
      have c2 : wr.cell? ⟨b, o + n * 4 + 2, none⟩ = some (.int .i64 L[n].st) := by rw [HB.out.cell (p := ⟨b, o + n * 4 + 2, none⟩) hbw]; exact hc _ _ s2
      have c3 : wr.cell? ⟨b, o + n * 4 + 3, none⟩ = some (.string L[n].b) := by rw [HB.out.cell (p := ⟨b, o + n * 4 + 3, none⟩) hbw]; exact hc _ _ s3
      clear hc s0 s1 s2 s3
      obtain ⟨F, he⟩ : ∃ F, L[n] = F := ⟨_, rfl⟩
      rw [he] at c0 c1 c2 c3
      have HY : Hid (isF k id F = true → keepF k id (L.take (n + 1)) = M ++ [F]) := by rw [← he, ← HM.out]; exact keepF_yes hlt
      have HN : Hid (isF k id F = false → keepF k id (L.take (n + 1)) = M) := by rw [← he, ← HM.out]; exact keepF_no hlt
      have hkl : M.length ≤ n := by have := keepF_len k id (L.take n); rw [List.length_take, HM.out] at this; omega
      clear he HM
      go_upto_region 5 with fail
      have hbe : Below wr.heap.size wr (wr.alloc (.cells #[.int .i64 F.k, .int .i64 F.fl, .int .i64 F.st, .string F.b] 28)) := (Below.refl _ _).alloc (Nat.le_refl _) _
      have HE : Hid (RowIs (wr.alloc (.cells #[.int .i64 F.k, .int .i64 F.fl, .int .i64 F.st, .string F.b] 28)) wr.heap.size 28 [.int .i64 F.k, .int .i64 F.fl, .int .i64 F.st, .string F.b]) := rowIs_new wr 28 [.int .i64 F.k, .int .i64 F.fl, .int .i64 F.st, .string F.b]
      generalize wr.alloc (.cells #[.int .i64 F.k, .int .i64 F.fl, .int .i64 F.st, .string F.b] 28) = X at *
      have HOX := hide (owns_new HO.out hbe)
      have HBX := hide (bchain HB.out hbe)
      have hne : (Value.slice a M.length p).ownBlock ≠ some wr.heap.size := fun hq => by have := (HO.out.lt _ hq).2; omega
      have HNE := hide hne
      have HGB : Hid (w.heap.size ≤ wr.heap.size) := HB.out.size
      generalize wr.heap.size = go at *
      clear c0 c1 c2 c3 hbe HO hne HB
      go_wp2_with fail
      go_loopg [18] 1 (fun g i wi => ∃ (j : Nat), j + g = 1 ∧ i = .int .i64 j ∧ Hid (j = 1 → isF k id F = true) ∧ Hid (RowIs wi go 28 [.int .i64 F.k, .int .i64 F.fl, .int .i64 F.st, .string F.b]) ∧ Hid (wi.ownsRow w.heap.size 28 4 (.slice a M.length p) M.length (fr M)) ∧ Hid (Below w.heap.size w wi))
      case atStart => exact ⟨0, by omega, rfl, fun h => absurd h (by omega), HE, HOX, HBX⟩
      case round =>
        clear HE HOX HBX
        obtain ⟨j, hjg, rfl, HA, HE, HO, HB⟩ := hrel
        have hlE := HE.out.lt
        have e0 := HE.out.cell (j := 0) rfl
        have e1 := HE.out.cell (j := 1) rfl
        have e2 := HE.out.cell (j := 2) rfl
        have e3 := HE.out.cell (j := 3) rfl
        cases gk with
        | zero =>
          obtain rfl : j = 1 := by omega
          have HM2 := hide (HY.out (HA.out rfl))
          clear hjg
          have hX : Below wr.heap.size wr (wr.alloc (.cells #[.int .i64 F.k, .int .i64 F.fl, .int .i64 F.st, .string F.b] 28)) := (Below.refl _ _).alloc (Nat.le_refl _) _
          have hownX := owns_new HO.out hX
          have hRd : Reads (wr.alloc (.cells #[.int .i64 F.k, .int .i64 F.fl, .int .i64 F.st, .string F.b] 28)) (.slice (some ⟨wr.heap.size, 0, none⟩) 1 1) 1 4 (fr [F]) := reads_of_owns (owns_lit wr 28 4 1 #[.int .i64 F.k, .int .i64 F.fl, .int .i64 F.st, .string F.b] rfl (by omega))
          have HBX := hide (bchain HB.out hX)
          have hbs := HBX.out.size
          go_wp2_with (at_builtin; (refine wpList_app _ (by rfl) _ _ 33 (by rfl) 28 (.agg #[.int .i64 0, .int .i64 0, .int .i64 0, .string ⟨#[]⟩]) 4 40 Tryd.underlying33 (by kernel_rfl) rfl (by decide) w.heap.size _ M.length (fr M) (by rfl) hownX _ 1 (fr [F]) (by rfl) hRd (fr_one _) (by omega) (by decide) hbs ?_))
          intro ad7 cap7 w7 hown7 hg7 hat7
          have HB7 : Hid (Below w.heap.size w w7) := by
            have hb := HBX.out
            exact ⟨hg7.os.trans hb.os, hg7.tape.trans hb.tape, hg7.output.trans hb.output, Nat.le_trans hb.size hg7.size, fun k hk => (hg7.block k (by have := hb.size; omega) (fun e => by have := (hownX.lt k e.symm).1; omega)).trans (hb.block k hk)⟩
          have HO7 : Hid (w7.ownsRow w.heap.size 28 4 (.slice ad7 (M ++ [F]).length cap7) (M ++ [F]).length (fr (M ++ [F]))) := by
            show World.ownsRow _ _ _ _ _ _ _
            have := hown7
            rw [← fr_app] at this
            simpa using this
          clear hown7 hg7 hat7 hownX hRd hX hbs
          go_wp2_with fail
          go_roundg go1
          case measure => omega
          case rel => exact ⟨n + 1, ad7, cap7, M ++ [F], by omega, by go_num, by simp, HM2, HO7, HB7⟩
        | succ gj =>
          obtain rfl : j = 0 := by omega
          have hsw := HB.out.size
          have hcx : wr.cell? fa = _ := (HB.out.cell (p := fa) lf).trans HF.out
          have hg1 := (HB.out.cell (p := ⟨g1, 0, none⟩) l1).trans H1.out
          have hg2 := (HB.out.cell (p := ⟨g2, 0, none⟩) l2).trans H2.out
          go_wp2_with fail
          refine (implWantF k id F g1 g2 _ hg1 hg2 (by omega) (by omega)).mono ?_; rintro z w5 ⟨rfl, hb5⟩
          replace HE := hide (HE.out.new hb5)
          replace HO := hide (owns_new HO.out hb5)
          replace HB := hide (bchain HB.out hb5)
          clear hb5 e0 e1 e2 e3 hcx hg1 hg2
          cases hq : isF k id F
          · have HM2 := hide (HN.out hq)
            clear hq
            go_wp2_with fail
            go_roundg go1
            case measure => omega
            case rel => exact ⟨n + 1, a, p, M, by omega, by go_num, rfl, HM2, HO, HB⟩
          · have HA2 : Hid (isF k id F = true) := hq
            clear hq
            go_wp2_with fail
            go_roundg gj
            case measure => omega
            case rel => exact ⟨0 + 1, by omega, by go_num, fun _ => HA2.out, HE, HO, HB⟩
end Go.Proofs.YtbnfdakaloeocaaDoor
