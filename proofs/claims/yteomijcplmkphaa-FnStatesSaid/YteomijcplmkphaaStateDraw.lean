/- What the laws of states draw: states, events, rows of events. -/
import Derived.Test.YteomijcplmkphaaCurTurn
import Derived.Test.YteomijcplmkphaaRowIs
import Derived.Test.YteomijcplmkphaaOpenCode
import Derived.Test.YteomijcplmkphaaStateSpec
import Derived.Test.YteomijcplmkphaaAppRows
import Derived.Test.YteomijcplmkphaaRowNew

namespace Go.Proofs.Yteomijcplmkphaa
open Go.RowKit
set_option maxRecDepth 100000
set_option linter.unusedSimpArgs false
set_option linter.unusedVariables false
set_option maxHeartbeats 1000000 in
theorem drawEvent (g B : Nat) (w : World) (hc : Cur w g B) :
    Calls Try.prog 27 #[.pointer (some ⟨g, 0, none⟩)] w fun e w' => ∃ z : Int, e = .returned (.int .i64 z) ∧ Cur w' g B ∧ Moves g w w' := by
  have hgw := hc.lt
  go_enter Try.func27, Try.ntmps27
  go_wp2_with fail
  refine (once1 g B 14 _ hc (by omega)).mono ?_; rintro e w1 ⟨v, rfl, hc1, hm1⟩
  cases v
  · go_wp2_with fail
    refine (below1 g B 7 _ hc1 (by omega)).mono ?_; rintro e w2 ⟨q, q0, q1, _, rfl, hc2, hm2⟩
    have q6 := q1 (by omega)
    clear q1
    go_wp2_with fail
    go_ret
    exact ⟨_, rfl, hc2, hm1.trans hm2⟩
  · have hg1 := hc1.lt
    go_wp2_with fail
    obtain ⟨VA, hVA⟩ : ∃ V, w1.alloc (.cells #[.int .i64 0, .int .i64 8, .int .i64 (-1)] 2) = V := ⟨_, rfl⟩
    have RA : RowIs VA w1.heap.size 2 [.int .i64 0, .int .i64 8, .int .i64 (-1)] := by rw [← hVA]; exact rowIs_new w1 _ _
    have hbA : Below w1.heap.size w1 VA := by rw [← hVA]; exact (Below.refl _ _).alloc (Nat.le_refl _) _
    rw [hVA]
    clear hVA
    refine (below1 g B 3 _ (hc1.below hbA) (by omega)).mono ?_; rintro e w2 ⟨q, q0, q1, _, rfl, hc2, hm2⟩
    have q6 := q1 (by omega)
    replace RA := RA.moves hm2 (by omega)
    obtain ⟨qn, rfl⟩ : ∃ n : Nat, q = n := ⟨q.toNat, by omega⟩
    obtain ⟨z, hz⟩ : ∃ z : Int, w2.cell? ⟨w1.heap.size, qn, none⟩ = some (.int .i64 z) := by
      have : qn = 0 ∨ qn = 1 ∨ qn = 2 := by omega
      rcases this with rfl | rfl | rfl <;> exact ⟨_, RA.cell rfl⟩
    have hlA := RA.lt
    have hmm := (hm1.trans (Moves.of_below hbA)).trans hm2
    clear q1 RA hbA hm2 hm1
    go_wp2_with fail
    go_ret
    exact ⟨z, rfl, hc2, hmm⟩
set_option maxHeartbeats 1000000 in
theorem drawNext (a : Option Addr) (len cap : Nat) (w : World) (hl : len ≤ 4096) (hcode : CodeAt w a len w.heap.size) :
    Calls Try.prog 9 #[.slice a len cap] w fun e w' => ∃ x n : Int, e = .returned (.tuple #[.int .i64 x, .int .i64 n]) ∧ Below w.heap.size w w' := by
  go_enter Try.func9, Try.ntmps9
  go_wp2_with fail
  refine (new1 a len cap _ hl hcode).mono ?_; rintro x w1 ⟨g, rfl, hg, hc1, hb1⟩
  go_wp2_with fail
  refine (from1 g _ 0 5 _ hc1 (by omega) (by omega) (by omega)).mono ?_; rintro e w2 ⟨z, _, _, rfl, hc2, hm2⟩
  go_wp2_with fail
  refine (once1 g _ 14 _ hc2 (by omega)).mono ?_; rintro e w3 ⟨v, rfl, hc3, hm3⟩
  cases v
  · go_wp2_with fail
    refine (drawEvent g _ _ hc3).mono ?_; rintro e w4 ⟨n, rfl, hc4, hm4⟩
    have hbw : Below w.heap.size w w4 := hb1.trans (((hm2.trans hm3).trans hm4).below hg hb1.size)
    go_wp2_with fail
    go_ret2
    exact ⟨z, n, rfl, hbw⟩
  · have hg3 := hc3.lt
    go_wp2_with fail
    obtain ⟨VA, hVA⟩ : ∃ V, w3.alloc (.cells #[.int .i64 (-1), .int .i64 5] 2) = V := ⟨_, rfl⟩
    have RA : RowIs VA w3.heap.size 2 [.int .i64 (-1), .int .i64 5] := by rw [← hVA]; exact rowIs_new w3 _ _
    have hbA : Below w3.heap.size w3 VA := by rw [← hVA]; exact (Below.refl _ _).alloc (Nat.le_refl _) _
    rw [hVA]
    clear hVA
    refine (below1 g _ 2 _ (hc3.below hbA) (by omega)).mono ?_; rintro e w4 ⟨q, q0, q1, _, rfl, hc4, hm4⟩
    have q6 := q1 (by omega)
    replace RA := RA.moves hm4 (by omega)
    obtain ⟨qn, rfl⟩ : ∃ n : Nat, q = n := ⟨q.toNat, by omega⟩
    obtain ⟨y, hz⟩ : ∃ z : Int, w4.cell? ⟨w3.heap.size, qn, none⟩ = some (.int .i64 z) := by
      have : qn = 0 ∨ qn = 1 := by omega
      rcases this with rfl | rfl <;> exact ⟨_, RA.cell rfl⟩
    have hlA := RA.lt
    have hmm := ((hm2.trans hm3).trans (Moves.of_below hbA)).trans hm4
    clear q1 RA hbA hm2 hm3 hm4
    go_wp2_with fail
    refine (drawEvent g _ _ hc4).mono ?_; rintro e w5 ⟨n, rfl, hc5, hm5⟩
    have hbw : Below w.heap.size w w5 := hb1.trans ((hmm.trans hm5).below hg hb1.size)
    go_wp2_with fail
    go_ret2
    exact ⟨y, n, rfl, hbw⟩
theorem drawMaySend (a : Option Addr) (len cap : Nat) (w : World) (hl : len ≤ 4096) (hcode : CodeAt w a len w.heap.size) :
    Calls Try.prog 13 #[.slice a len cap] w fun e w' => ∃ x : Int, e = .returned (.int .i64 x) ∧ Below w.heap.size w w' := by
  go_enter Try.func13, Try.ntmps13
  go_wp2_with fail
  refine (drawNext a len cap _ hl hcode).mono ?_; rintro e w1 ⟨x, n, rfl, hb1⟩
  go_wp2_with fail
  go_ret
  exact ⟨x, rfl, hb1⟩
theorem drawMayGet (a : Option Addr) (len cap : Nat) (w : World) (hl : len ≤ 4096) (hcode : CodeAt w a len w.heap.size) :
    Calls Try.prog 14 #[.slice a len cap] w fun e w' => ∃ x : Int, e = .returned (.int .i64 x) ∧ Below w.heap.size w w' := by
  go_enter Try.func14, Try.ntmps14
  go_wp2_with fail
  refine (drawMaySend a len cap _ hl hcode).mono ?_; rintro e w1 ⟨x, rfl, hb1⟩
  go_wp2_with fail
  go_ret
  exact ⟨x, rfl, hb1⟩
set_option maxHeartbeats 2000000 in
theorem drawAfter (a : Option Addr) (len cap : Nat) (w : World) (hl : len ≤ 4096) (hcode : CodeAt w a len w.heap.size) :
    Calls Try.prog 11 #[.slice a len cap] w fun e w' => ∃ (v : Value) (l : List Int), e = .returned v ∧ w'.ownsRow w.heap.size 2 1 v l.length (iv l) ∧ l.length ≤ 9 ∧ Below w.heap.size w w' := by
  go_enter Try.func11, Try.ntmps11
  go_wp2_with fail
  refine (new1 a len cap _ hl hcode).mono ?_; rintro x w1 ⟨g, rfl, hg, hc1, hb1⟩
  have hg1 := hc1.lt
  go_wp2_with fail
  have ho0 := owns_lit w1 2 1 0 #[] rfl (by omega)
  have hc0 := hc1.alloc (.cells #[] 2)
  have hm0 := (Moves.refl g w1).alloc (.cells #[] 2)
  generalize w1.alloc (.cells #[] 2) = w2 at *
  refine (below1 g _ 9 _ hc0 (by omega)).mono ?_; rintro e w3 ⟨n, n0, n1, _, rfl, hc3, hm3⟩
  have n5 := n1 (by omega)
  have ho3 := owns_moves ho0 hm3 hg1
  replace hm3 := hm0.trans hm3
  clear ho0 hc0 hm0 n1 hc1
  go_wp2_with fail
  go_loopw [4, 5, 6] (fun lst s n wr => ∃ (m : Nat) (z : Int) (l : List Int) (la : Option Addr) (lp : Nat), n = .int .i64 m ∧ s = .int .i64 z ∧ lst = .slice la l.length lp ∧ m + l.length ≤ 9 ∧ wr.ownsRow w1.heap.size 2 1 (.slice la l.length lp) l.length (iv l) ∧ Cur wr g _ ∧ Moves g w1 wr) (fun _ _ n _ => (intOf n).toNat)
  case atStart =>
    obtain ⟨m, rfl⟩ : ∃ m : Nat, n = m := ⟨n.toNat, by omega⟩
    exact ⟨m, 0, [], _, _, rfl, rfl, rfl, by simp; omega, ho3, hc3, hm3⟩
  case round =>
    clear ho3 hc3 hm3
    obtain ⟨m, z, l, la, lp, rfl, rfl, rfl, hml, how, hcr, hmr⟩ := hrel
    have hsr := hmr.size
    by_cases hm : 0 < m
    · obtain ⟨m', rfl⟩ : ∃ m', m = m' + 1 := ⟨m - 1, by omega⟩
      go_wp2_with fail
      refine (drawEvent g _ _ hcr).mono ?_; rintro e w5 ⟨ev, rfl, hc5, hm5⟩
      have how5 := owns_moves how hm5 hg1
      have hm6 := hmr.trans hm5
      clear how hcr hmr hm5
      go_wp2_with fail
      refine (specNext z ev _).mono ?_; rintro e w6 ⟨rfl, hsame⟩; obtain rfl := hsame.symm; clear hsame
      obtain ⟨⟨x, is⟩, hx⟩ : ∃ y, nxV z ev = y := ⟨_, rfl⟩
      rw [hx]
      dsimp only
      clear hx
      cases is
      · go_wp2_with fail
        refine (once1 g _ 12 _ hc5 (by omega)).mono ?_; rintro e w7 ⟨v, rfl, hc7, hm7⟩
        have how7 := owns_moves how5 hm7 hg1
        have hm8 := hm6.trans hm7
        clear how5 hc5 hm6 hm7
        cases v
        · have HO := hide how7; have HC := hide hc7; have HM := hide hm8
          clear how7 hc7 hm8
          go_wp2_with fail
          go_roundw
          case rel => exact ⟨m', z, l, la, lp, by go_num, rfl, rfl, by omega, HO.out, HC.out, HM.out⟩
          case measure => simp [intOf]
        · have hX : Below w7.heap.size w7 (w7.alloc (.cells #[.int .i64 ev] 2)) := (Below.refl _ _).alloc (Nat.le_refl _) _
          have hownX := owns_new how7 hX
          have hRd := reads_int1 w7 ev
          have hcX := hc7.below hX
          have hmX := hm8.trans (Moves.of_below (g := g) hX)
          have hsX := hmX.size
          clear how7 hc7 hm8 hX
          go_wp2_with (at_builtin; refine wpList_app _ (by rfl) _ _ 28 (by rfl) 2 (.int .i64 0) 1 8 Try.underlying28 (by kernel_rfl) rfl (by decide) w1.heap.size _ l.length (iv l) (by rfl) hownX _ 1 (iv [ev]) (by rfl) hRd (iv_one _) (by omega) (by decide) (by omega) ?_)
          intro ad9 cap9 w9 hown9 hg9 hat9
          have HC := hide (hcX.grown hg9 (fun k hk => by have := (hownX.lt k hk).1; omega))
          have HM := hide (hmX.grown hg9 (fun k hk => by have := (hownX.lt k hk).1; omega))
          have HO := hide hown9
          clear hown9 hg9 hat9 hownX hRd hcX hmX
          go_wp2_with fail
          go_roundw
          case rel =>
            have hlen : (l ++ [ev]).length = l.length + 1 := by simp
            refine ⟨m', x, l ++ [ev], ad9, cap9, by go_num, rfl, ?_⟩
            rw [hlen, iv_app]
            exact ⟨rfl, by omega, HO.out, HC.out, HM.out⟩
          case measure => simp [intOf]
      · have hX : Below w5.heap.size w5 (w5.alloc (.cells #[.int .i64 ev] 2)) := (Below.refl _ _).alloc (Nat.le_refl _) _
        have hownX := owns_new how5 hX
        have hRd := reads_int1 w5 ev
        have hcX := hc5.below hX
        have hmX := hm6.trans (Moves.of_below (g := g) hX)
        have hsX := hmX.size
        clear how5 hc5 hm6 hX
        go_wp2_with (at_builtin; refine wpList_app _ (by rfl) _ _ 28 (by rfl) 2 (.int .i64 0) 1 8 Try.underlying28 (by kernel_rfl) rfl (by decide) w1.heap.size _ l.length (iv l) (by rfl) hownX _ 1 (iv [ev]) (by rfl) hRd (iv_one _) (by omega) (by decide) (by omega) ?_)
        intro ad9 cap9 w9 hown9 hg9 hat9
        have HC := hide (hcX.grown hg9 (fun k hk => by have := (hownX.lt k hk).1; omega))
        have HM := hide (hmX.grown hg9 (fun k hk => by have := (hownX.lt k hk).1; omega))
        have HO := hide hown9
        clear hown9 hg9 hat9 hownX hRd hcX hmX
        go_wp2_with fail
        go_roundw
        case rel =>
          have hlen : (l ++ [ev]).length = l.length + 1 := by simp
          refine ⟨m', x, l ++ [ev], ad9, cap9, by go_num, rfl, ?_⟩
          rw [hlen, iv_app]
          exact ⟨rfl, by omega, HO.out, HC.out, HM.out⟩
        case measure => simp [intOf]
    · obtain rfl : m = 0 := by omega
      have HO := hide how; have HM := hide hmr
      clear how hmr hcr
      go_wp2_with fail
      go_ret
      exact ⟨_, l, rfl, owns_base HO.out (fun k hk => by have := (HO.out.lt k hk).1; have := hb1.size; omega), by omega, hb1.trans (HM.out.below hg hb1.size)⟩
end Go.Proofs.Yteomijcplmkphaa
