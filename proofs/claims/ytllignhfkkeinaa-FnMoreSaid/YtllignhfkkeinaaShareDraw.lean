/- What the laws of chapter 13 draw: wants, a room, shares. -/
import Derived.Test.YtllignhfkkeinaaShareSpec
import Derived.Test.YtllignhfkkeinaaOwnsGrown
import Derived.Test.YtllignhfkkeinaaCurTurn
import Derived.Test.YtllignhfkkeinaaOpenCode
import Derived.Test.YtllignhfkkeinaaAppRows
import Derived.Test.YtllignhfkkeinaaRowNew
import Derived.Test.YtllignhfkkeinaaText
import Derived.Deep.Cut
import Derived.Deep.DeepCutAuto



namespace Go.Proofs.Ytllignhfkkeinaa
open Go.RowKit
set_option maxRecDepth 100000
set_option linter.unusedSimpArgs false
set_option linter.unusedVariables false
def small (l : List Int) : Prop := ∀ x ∈ l, -1 ≤ x ∧ x ≤ 100001
theorem small_app {l : List Int} {x : Int} (h : small l) (h0 : -1 ≤ x) (h1 : x ≤ 100001) : small (l ++ [x]) := fun y hy => by
  rcases List.mem_append.1 hy with hy | hy
  · exact h y hy
  · simp at hy; subst hy; exact ⟨h0, h1⟩
theorem small_set {l : List Int} {x : Int} (h : small l) (k : Nat) (h0 : -1 ≤ x) (h1 : x ≤ 100001) : small (l.set k x) := fun y hy => by
  rcases List.mem_or_eq_of_mem_set hy with hy | rfl
  · exact h y hy
  · exact ⟨h0, h1⟩
theorem small_inR {l : List Int} (h : small l) : inR l := fun j hj => by
  have := h _ (List.getElem_mem hj)
  omega
set_option maxHeartbeats 2000000 in
theorem draw13 (g B : Nat) (w : World) (hc : Cur w g B) :
    Calls Try.prog 29 #[.pointer (some ⟨g, 0, none⟩)] w fun e w' => ∃ (v : Value) (l : List Int), e = .returned v ∧ w'.ownsRow w.heap.size 2 1 v l.length (iv l) ∧ l.length ≤ 12 ∧ small l ∧ Cur w' g B ∧ Moves g w w' := by
  have hgw := hc.lt
  go_enter Try.func29, Try.ntmps29
  go_wp2_with fail
  have ho0 := owns_lit w 2 1 0 #[] rfl (by omega)
  have hc0 := hc.alloc (.cells #[] 2)
  have hm0 := (Moves.refl g w).alloc (.cells #[] 2)
  generalize w.alloc (.cells #[] 2) = w2 at *
  refine (below1 g _ 5 _ hc0 (by omega)).mono ?_; rintro e w3 ⟨x, n0, n1, _, rfl, hc3, hm3⟩
  have n5 := n1 (by omega)
  have ho3 := owns_moves ho0 hm3 hgw
  replace hm3 := hm0.trans hm3
  clear ho0 hc0 hm0 n1 hc
  go_wp2_with fail
  go_loopw [3, 4] (fun lst n wr => ∃ (m : Nat) (l : List Int) (la : Option Addr) (lp : Nat), n = .int .i64 m ∧ lst = .slice la l.length lp ∧ m + l.length ≤ 5 ∧ 1 ≤ m + l.length ∧ Hid (small l) ∧ Hid (wr.ownsRow w.heap.size 2 1 (.slice la l.length lp) l.length (iv l)) ∧ Hid (Cur wr g B) ∧ Hid (Moves g w wr)) (fun _ n _ => (intOf n).toNat)
  case atStart =>
    obtain ⟨m, rfl⟩ : ∃ m : Nat, x = m := ⟨x.toNat, by omega⟩
    exact ⟨1 + m, [], _, _, by go_num, rfl, by simp; omega, by simp, fun y hy => (by cases hy), hide ho3, hide hc3, hide hm3⟩
  case round =>
    clear ho3 hc3 hm3
    obtain ⟨m, l, la, lp, rfl, rfl, hml, hml1, HSM, HO, HC, HM⟩ := hrel
    have hsr := HM.out.size
    by_cases hm : 0 < m
    · obtain ⟨m', rfl⟩ : ∃ m', m = m' + 1 := ⟨m - 1, by omega⟩
      go_wp2_with fail
      refine (below1 g _ 20 _ HC.out (by omega)).mono ?_; rintro e w5 ⟨ev, e0, e1, _, rfl, hc5, hm5⟩
      have e20 := e1 (by omega)
      have how7 := owns_moves HO.out hm5 hgw
      have hm8 := HM.out.trans hm5
      clear HO HC HM hm5 e1
      have hX : Below w5.heap.size w5 (w5.alloc (.cells #[.int .i64 ev] 2)) := (Below.refl _ _).alloc (Nat.le_refl _) _
      have hownX := owns_new how7 hX
      have hRd := reads_int1 w5 ev
      have hcX := hc5.below hX
      have hmX := hm8.trans (Moves.of_below (g := g) hX)
      have hsX := hmX.size
      have HSM2 : Hid (small (l ++ [ev])) := small_app HSM.out (by omega) (by omega)
      clear how7 hc5 hm8 hX HSM
      go_wp2_with (at_builtin; refine wpList_app _ (by rfl) _ _ 24 (by rfl) 2 (.int .i64 0) 1 8 Try.underlying24 (by kernel_rfl) rfl (by decide) w.heap.size _ l.length (iv l) (by rfl) hownX _ 1 (iv [ev]) (by rfl) hRd (iv_one _) (by omega) (by decide) (by omega) ?_)
      intro ad9 cap9 w9 hown9 hg9 hat9
      have HC := hide (hcX.grown hg9 (fun k hk => by have := (hownX.lt k hk).1; omega))
      have HM := hide (hmX.grown hg9 (fun k hk => by have := (hownX.lt k hk).1; omega))
      have HO := hide hown9
      clear hown9 hg9 hat9 hownX hRd hcX hmX
      go_wp2_with fail
      go_roundw
      case rel =>
        have hlen : (l ++ [ev]).length = l.length + 1 := by simp
        refine ⟨m', l ++ [ev], ad9, cap9, by go_num, ?_⟩
        rw [hlen, iv_app]
        exact ⟨rfl, by omega, by omega, HSM2, HO, HC, HM⟩
      case measure => simp [intOf]
    · have hm0 : ¬ (0 : Int) < m := by omega
      have hl1 : 1 ≤ l.length := by omega
      clear hm
      go_wp2_with fail
      refine (once1 g _ 14 _ HC.out (by omega)).mono ?_; rintro e w5 ⟨vb, rfl, hc5, hm5⟩
      replace HO := hide (owns_moves HO.out hm5 hgw)
      replace HM := hide (HM.out.trans hm5)
      replace HC := hide hc5
      clear hc5 hm5
      cases vb
      · go_wp2_with fail
        go_ret
        exact ⟨_, l, rfl, HO.out, by omega, HSM.out, HC.out, HM.out⟩
      · go_wp2_with fail
        refine (below1 g _ 3 _ HC.out (by omega)).mono ?_; rintro e w6 ⟨k, k0, k1, _, rfl, hc5, hm5⟩
        have k3 := k1 (by omega)
        replace HO := hide (owns_moves HO.out hm5 hgw)
        replace HM := hide (HM.out.trans hm5)
        replace HC := hide hc5
        have hs6 := HM.out.size
        have hcl6 := HC.out.lt
        clear hc5 hm5 k1
        have hk : k = 0 ∨ k = 1 ∨ k = 2 := by omega
        rcases hk with rfl | rfl | rfl
        · go_wp2_with fail
          obtain ⟨V, hV⟩ : ∃ V, w6.alloc (.cells #[.int .i64 (-1), .int .i64 100000, .int .i64 100001] 2) = V := ⟨_, rfl⟩
          have RA : RowIs V w6.heap.size 2 [.int .i64 (-1), .int .i64 100000, .int .i64 100001] := by rw [← hV]; exact rowIs_new w6 _ _
          have hbV : Below w6.heap.size w6 V := by rw [← hV]; exact (Below.refl _ _).alloc (Nat.le_refl _) _
          replace HO := hide (owns_new HO.out hbV)
          replace HM := hide (HM.out.trans (Moves.of_below hbV))
          replace HC := hide (HC.out.below hbV)
          rw [hV]
          clear hV hbV
          refine (below1 g _ 3 _ HC.out (by omega)).mono ?_; rintro e w7 ⟨q, q0, q1, _, rfl, hc5, hm5⟩
          have q3 := q1 (by omega)
          replace HO := hide (owns_moves HO.out hm5 hgw)
          replace HM := hide (HM.out.trans hm5)
          replace HC := hide hc5
          replace RA := RA.moves hm5 (by omega)
          clear hc5 hm5 q1
          obtain ⟨gb, cap', e1, e2, e3, e4, _, _, e5, e6⟩ := owns_open HO.out (by omega)
          simp only [Value.slice.injEq, Option.some.injEq] at e1
          obtain ⟨rfl, _, rfl⟩ := e1
          have hf := e6 0
          obtain ⟨u0, hu0⟩ : ∃ u, w7.cell? ⟨gb, 0, none⟩ = some u := ⟨_, e5 0 _ (iv_get l 0 (by omega))⟩
          have hset := fun z : Int => owns_set HO.out rfl 0 (.int .i64 z)
          have hcs := fun z : Int => HC.out.set ⟨gb, 0, none⟩ (.int .i64 z) (by show g < gb; omega)
          have hms := fun z : Int => HM.out.setNew ⟨gb, 0, none⟩ (by show w.heap.size ≤ gb; omega) (.int .i64 z)
          have HSET := hide hset; have HCS := hide hcs; have HMS := hide hms
          clear hset hcs hms e5 e6 HO HC HM
          have hl0 : (0 : Int) < l.length := by omega
          have hq : q = 0 ∨ q = 1 ∨ q = 2 := by omega
          rcases hq with rfl | rfl | rfl
          · have q5 := RowIs.cell (j := 0) RA rfl
            have q6 := RA.lt
            clear RA
            go_wp2_with fail
            go_ret
            exact ⟨_, l.set 0 (-1), rfl, by have := HSET.out (-1); rw [← iv_set] at this; simpa using this, by simp; omega, small_set (x := (-1)) HSM.out 0 (by omega) (by omega), HCS.out _, HMS.out _⟩
          · have q5 := RowIs.cell (j := 1) RA rfl
            have q6 := RA.lt
            clear RA
            go_wp2_with fail
            go_ret
            exact ⟨_, l.set 0 100000, rfl, by have := HSET.out 100000; rw [← iv_set] at this; simpa using this, by simp; omega, small_set (x := 100000) HSM.out 0 (by omega) (by omega), HCS.out _, HMS.out _⟩
          · have q5 := RowIs.cell (j := 2) RA rfl
            have q6 := RA.lt
            clear RA
            go_wp2_with fail
            go_ret
            exact ⟨_, l.set 0 100001, rfl, by have := HSET.out 100001; rw [← iv_set] at this; simpa using this, by simp; omega, small_set (x := 100001) HSM.out 0 (by omega) (by omega), HCS.out _, HMS.out _⟩
        · go_wp2_with fail
          go_ret
          exact ⟨_, [], rfl, owns_base (owns_lit w6 2 1 0 #[] rfl (by omega)) (fun q hq => by simp [Value.ownBlock] at hq; omega), by simp, fun y hy => (by cases hy), HC.out.alloc _, HM.out.alloc _⟩
        · go_wp2_with fail
          go_loopw [3] (fun lst wq => ∃ (l : List Int) (la : Option Addr) (lp : Nat), lst = .slice la l.length lp ∧ l.length ≤ 12 ∧ Hid (small l) ∧ Hid (wq.ownsRow w.heap.size 2 1 (.slice la l.length lp) l.length (iv l)) ∧ Hid (Cur wq g B) ∧ Hid (Moves g w wq)) (fun lst _ => 12 - slLen lst)
          case atStart => exact ⟨l, la, lp, rfl, by omega, HSM, HO, HC, HM⟩
          case round =>
            clear HO HC HM HSM
            obtain ⟨l, la, lp, rfl, hl12, HSM, HO, HC, HM⟩ := hrel
            have hsq := HM.out.size
            obtain ⟨_, _, e0, hlp, hlm⟩ := owns_form HO.out
            unfold maxLen at hlm
            simp only [Value.slice.injEq] at e0
            obtain ⟨rfl, _, rfl⟩ := e0
            go_wp2_with fail
            refine (below1 g _ 2 _ HC.out (by omega)).mono ?_; rintro e w8 ⟨q, q0, q1, _, rfl, hc5, hm5⟩
            have q2 := q1 (by omega)
            replace HO := hide (owns_moves HO.out hm5 hgw)
            replace HM := hide (HM.out.trans hm5)
            replace HC := hide hc5
            have hs8 := HM.out.size
            clear hc5 hm5 q1
            by_cases hgo : (l.length : Int) < 10 + q
            · have hX : Below w8.heap.size w8 (w8.alloc (.cells #[.int .i64 3] 2)) := (Below.refl _ _).alloc (Nat.le_refl _) _
              have hownX := owns_new HO.out hX
              have hRd := reads_int1 w8 3
              have hcX := HC.out.below hX
              have hmX := HM.out.trans (Moves.of_below (g := g) hX)
              have hsX := hmX.size
              have HSM2 : Hid (small (l ++ [3])) := small_app HSM.out (by omega) (by omega)
              clear HO HC HM hX HSM
              go_wp2_with (at_builtin; refine wpList_app _ (by rfl) _ _ 24 (by rfl) 2 (.int .i64 0) 1 8 Try.underlying24 (by kernel_rfl) rfl (by decide) w.heap.size _ l.length (iv l) (by rfl) hownX _ 1 (iv [3]) (by rfl) hRd (iv_one _) (by omega) (by decide) (by omega) ?_)
              intro ad9 cap9 w9 hown9 hg9 hat9
              have HC := hide (hcX.grown hg9 (fun k hk => by have := (hownX.lt k hk).1; omega))
              have HM := hide (hmX.grown hg9 (fun k hk => by have := (hownX.lt k hk).1; omega))
              have HO := hide hown9
              clear hown9 hg9 hat9 hownX hRd hcX hmX
              go_wp2_with fail
              go_roundw
              case rel =>
                have hlen : (l ++ [3]).length = l.length + 1 := by simp
                refine ⟨l ++ [3], ad9, cap9, ?_⟩
                rw [hlen, iv_app]
                exact ⟨rfl, by omega, HSM2, HO, HC, HM⟩
              case measure => simp [slLen]; omega
            · go_wp2_with fail
              go_ret
              exact ⟨_, l, rfl, HO.out, by omega, HSM.out, HC.out, HM.out⟩
set_option maxHeartbeats 2000000 in
theorem drawShares (a : Option Addr) (len cap : Nat) (w : World) (hl : len ≤ 4096) (hcode : CodeAt w a len w.heap.size) :
    Calls Try.prog 18 #[.slice a len cap] w fun e w' => ∃ (v : Value) (l : List Int) (room : Int), e = .returned (.tuple #[v, .int .i64 room]) ∧ w'.ownsRow w.heap.size 2 1 v l.length (iv l) ∧ l.length ≤ 12 ∧ small l ∧ -1 ≤ room ∧ room ≤ 1000001 ∧ Below w.heap.size w w' := by
  go_enter Try.func18, Try.ntmps18
  go_wp2_with fail
  refine (new1 a len cap _ hl hcode).mono ?_; rintro x w1 ⟨g, rfl, hg, hc1, hb1⟩
  have hg1 := hc1.lt
  have HB1 := hide hb1
  have hb1s := hb1.size
  clear hb1
  go_wp2_with fail
  refine (draw13 g _ _ hc1).mono ?_; rintro e w2 ⟨v, l, rfl, ho, hl12, hsm, hc2, hm2⟩
  obtain ⟨la, lp, rfl, _⟩ := owns_form ho
  have HO := hide ho; have HC := hide hc2; have HM := hide hm2; have HSM := hide hsm
  clear ho hc2 hm2 hsm hc1
  have hgb : g < w1.heap.size := hg1
  have hbase : ∀ u : World, u.ownsRow w1.heap.size 2 1 (.slice la l.length lp) l.length (iv l) → u.ownsRow w.heap.size 2 1 (.slice la l.length lp) l.length (iv l) := fun u h => owns_base h (fun q hq => by have := (h.lt q hq).1; omega)
  have HBASE := hide hbase
  clear hbase
  go_wp2_with fail
  refine (once1 g _ 10 _ HC.out (by omega)).mono ?_; rintro e w3 ⟨vb, rfl, hc5, hm5⟩
  replace HO := hide (owns_moves HO.out hm5 hgb)
  replace HM := hide (HM.out.trans hm5)
  replace HC := hide hc5
  clear hc5 hm5
  cases vb
  · go_wp2_with fail
    refine (below1 g _ 60 _ HC.out (by omega)).mono ?_; rintro e w4 ⟨z, z0, z1, _, rfl, hc5, hm5⟩
    have z2 := z1 (by omega)
    replace HO := hide (owns_moves HO.out hm5 hgb)
    replace HM := hide (HM.out.trans hm5)
    clear hc5 hm5
    go_wp2_with fail
    go_ret2
    exact ⟨_, l, z, rfl, HBASE.out _ HO.out, hl12, HSM.out, by omega, by omega, HB1.out.trans (HM.out.below (by omega) (by omega))⟩
  · go_wp2_with fail
    refine wp_region_any (by kernel_rfl) ?_; change wpAny _ _ _ _ _ _ _ (World.drew _)
    replace HO := hide (show World.ownsRow (World.drew w3) _ _ _ _ _ _ from HO.out)
    replace HM := hide HM.out.drew
    replace HC := hide HC.out.drew
    generalize World.drew w3 = u0 at *
    refine wpAny_take (i := 0) (v := ?_) rfl (by kernel_rfl) (by kernel_rfl) (by kernel_rfl) (fun _ _ _ h => h) (Or.inl ⟨by rfl, ?_⟩) ?_; rotate_left; focus (intro w; go_simp; try with_reducible rfl)
    refine wpAny_take (i := 2) (v := ?_) rfl (by kernel_rfl) (by kernel_rfl) (by kernel_rfl) (fun _ _ _ h => h) (Or.inl ⟨by rfl, ?_⟩) ?_; rotate_left; focus (intro w; go_simp; try with_reducible rfl)
    refine wpAny_ready (rs := [1, 3]) (by kernel_rfl) (by simp) ?_
    refine AllReady.cons rfl (fun K hK => ?_) (AllReady.cons rfl (fun K hK => ?_) AllReady.nil)
    · skip
      go_simp
      obtain ⟨V, hV⟩ : ∃ V, u0.alloc (.cells #[.int .i64 (-1), .int .i64 0, .int .i64 1000000, .int .i64 1000001] 2) = V := ⟨_, rfl⟩
      have RA : RowIs V u0.heap.size 2 [.int .i64 (-1), .int .i64 0, .int .i64 1000000, .int .i64 1000001] := by rw [← hV]; exact rowIs_new u0 _ _
      have hbV : Below u0.heap.size u0 V := by rw [← hV]; exact (Below.refl _ _).alloc (Nat.le_refl _) _
      have hcl := HC.out.lt
      replace HO := hide (owns_new HO.out hbV)
      replace HM := hide (HM.out.trans (Moves.of_below hbV))
      replace HC := hide (HC.out.below hbV)
      rw [hV]
      refine hK _ _ ?_; clear hK K hV hbV
      generalize u0.heap.size = ga at *
      refine wpAny_ready (rs := [3]) (by kernel_rfl) (by simp) ?_
      refine AllReady.cons rfl (fun K hK => ?_) AllReady.nil
      go_simp
      refine (below1 g _ 4 _ HC.out (by omega)).mono ?_; rintro e u1 ⟨q, q0, q1, _, rfl, hc5, hm5⟩
      have q3 := q1 (by omega)
      replace HO := hide (owns_moves HO.out hm5 hgb)
      replace HM := hide (HM.out.trans hm5)
      replace HC := hide hc5
      replace RA := RA.moves hm5 (by omega)
      clear hc5 hm5 q1
      obtain ⟨qn, rfl⟩ : ∃ qn : Nat, q = qn := ⟨q.toNat, by omega⟩
      have hqn : qn < 4 := by omega
      obtain ⟨z, hz, z0, z1⟩ : ∃ z : Int, ([.int .i64 (-1), .int .i64 0, .int .i64 1000000, .int .i64 1000001] : List Value)[qn]? = some (.int .i64 z) ∧ -1 ≤ z ∧ z ≤ 1000001 := by
        have : qn = 0 ∨ qn = 1 ∨ qn = 2 ∨ qn = 3 := by omega
        rcases this with rfl | rfl | rfl | rfl
        · exact ⟨-1, rfl, by omega, by omega⟩
        · exact ⟨0, rfl, by omega, by omega⟩
        · exact ⟨1000000, rfl, by omega, by omega⟩
        · exact ⟨1000001, rfl, by omega, by omega⟩
      refine hK _ _ ?_; clear hK K
      refine wpAny_take (i := 6) (v := ?_) rfl (by kernel_rfl) (by kernel_rfl) (by kernel_rfl) (fun _ _ _ h => h) (Or.inl ⟨by rfl, ?_⟩) ?_; rotate_left; focus (intro w; go_simp; try with_reducible rfl)
      refine wpAny_take (i := 4) (v := ?_) rfl (by kernel_rfl) (by kernel_rfl) (by kernel_rfl) (fun _ _ _ h => h) (Or.inl ⟨by rfl, ?_⟩) ?_; rotate_left; focus (intro w; go_simp; try with_reducible rfl)
      refine wpAny_ready (rs := [5]) (by kernel_rfl) (by simp) ?_
      refine AllReady.cons rfl (fun K hK => ?_) AllReady.nil
      have q5 := RowIs.cell (j := qn) RA hz
      have q6 := RA.lt
      go_simp
      refine hK _ _ ?_; clear hK K q5 q6
      refine wpAny_take (i := 7) (v := ?_) rfl (by kernel_rfl) (by kernel_rfl) (by kernel_rfl) (fun _ _ _ h => h) (Or.inl ⟨by rfl, ?_⟩) ?_; rotate_left; focus (intro w; go_simp; try with_reducible rfl)
      refine wpAny_done (by kernel_rfl) ?_ _
      go_wp2_with fail
      go_ret2
      exact ⟨_, l, z, rfl, HBASE.out _ HO.out, hl12, HSM.out, z0, z1, HB1.out.trans (HM.out.below (by omega) (by omega))⟩
    · skip
      go_simp
      refine (below1 g _ 4 _ HC.out (by omega)).mono ?_; rintro e u1 ⟨q, q0, q1, _, rfl, hc5, hm5⟩
      have q3 := q1 (by omega)
      replace HO := hide (owns_moves HO.out hm5 hgb)
      replace HM := hide (HM.out.trans hm5)
      replace HC := hide hc5
      skip
      clear hc5 hm5 q1
      obtain ⟨qn, rfl⟩ : ∃ qn : Nat, q = qn := ⟨q.toNat, by omega⟩
      have hqn : qn < 4 := by omega
      obtain ⟨z, hz, z0, z1⟩ : ∃ z : Int, ([.int .i64 (-1), .int .i64 0, .int .i64 1000000, .int .i64 1000001] : List Value)[qn]? = some (.int .i64 z) ∧ -1 ≤ z ∧ z ≤ 1000001 := by
        have : qn = 0 ∨ qn = 1 ∨ qn = 2 ∨ qn = 3 := by omega
        rcases this with rfl | rfl | rfl | rfl
        · exact ⟨-1, rfl, by omega, by omega⟩
        · exact ⟨0, rfl, by omega, by omega⟩
        · exact ⟨1000000, rfl, by omega, by omega⟩
        · exact ⟨1000001, rfl, by omega, by omega⟩
      refine hK _ _ ?_; clear hK K
      refine wpAny_take (i := 6) (v := ?_) rfl (by kernel_rfl) (by kernel_rfl) (by kernel_rfl) (fun _ _ _ h => h) (Or.inl ⟨by rfl, ?_⟩) ?_; rotate_left; focus (intro w; go_simp; try with_reducible rfl)
      refine wpAny_ready (rs := [1]) (by kernel_rfl) (by simp) ?_
      refine AllReady.cons rfl (fun K hK => ?_) AllReady.nil
      go_simp
      obtain ⟨V, hV⟩ : ∃ V, u1.alloc (.cells #[.int .i64 (-1), .int .i64 0, .int .i64 1000000, .int .i64 1000001] 2) = V := ⟨_, rfl⟩
      have RA : RowIs V u1.heap.size 2 [.int .i64 (-1), .int .i64 0, .int .i64 1000000, .int .i64 1000001] := by rw [← hV]; exact rowIs_new u1 _ _
      have hbV : Below u1.heap.size u1 V := by rw [← hV]; exact (Below.refl _ _).alloc (Nat.le_refl _) _
      have hcl := HC.out.lt
      replace HO := hide (owns_new HO.out hbV)
      replace HM := hide (HM.out.trans (Moves.of_below hbV))
      replace HC := hide (HC.out.below hbV)
      rw [hV]
      refine hK _ _ ?_; clear hK K hV hbV
      generalize u1.heap.size = ga at *
      refine wpAny_take (i := 4) (v := ?_) rfl (by kernel_rfl) (by kernel_rfl) (by kernel_rfl) (fun _ _ _ h => h) (Or.inl ⟨by rfl, ?_⟩) ?_; rotate_left; focus (intro w; go_simp; try with_reducible rfl)
      refine wpAny_ready (rs := [5]) (by kernel_rfl) (by simp) ?_
      refine AllReady.cons rfl (fun K hK => ?_) AllReady.nil
      have q5 := RowIs.cell (j := qn) RA hz
      have q6 := RA.lt
      go_simp
      refine hK _ _ ?_; clear hK K q5 q6
      refine wpAny_take (i := 7) (v := ?_) rfl (by kernel_rfl) (by kernel_rfl) (by kernel_rfl) (fun _ _ _ h => h) (Or.inl ⟨by rfl, ?_⟩) ?_; rotate_left; focus (intro w; go_simp; try with_reducible rfl)
      refine wpAny_done (by kernel_rfl) ?_ _
      go_wp2_with fail
      go_ret2
      exact ⟨_, l, z, rfl, HBASE.out _ HO.out, hl12, HSM.out, z0, z1, HB1.out.trans (HM.out.below (by omega) (by omega))⟩
theorem drawLevel (a : Option Addr) (len cap : Nat) (w : World) (hl : len ≤ 4096) (hcode : CodeAt w a len w.heap.size) :
    Calls Try.prog 7 #[.slice a len cap] w fun e w' => ∃ (v : Value) (l : List Int) (room : Int), e = .returned (.tuple #[v, .int .i64 room]) ∧ w'.ownsRow w.heap.size 2 1 v l.length (iv l) ∧ l.length ≤ 12 ∧ small l ∧ -1 ≤ room ∧ room ≤ 1000001 ∧ Below w.heap.size w w' := by
  go_enter Try.func7, Try.ntmps7
  go_wp2_with fail
  refine (drawShares a len cap _ hl hcode).mono ?_; rintro x w1 ⟨v, l, room, rfl, ho, h1, h2, h3, h4, hb⟩
  obtain ⟨la, lp, rfl, _⟩ := owns_form ho
  have HO := hide ho; have H2 := hide h2; have HB := hide hb
  clear ho h2 hb
  go_wp2_with fail
  go_ret2
  exact ⟨_, l, room, rfl, HO.out, h1, H2.out, h3, h4, HB.out⟩
theorem shr_small {L s : List Int} {room : Int} (h : ShR L room s) : small s ∧ s.length ≤ 10 := by
  unfold ShR at h
  split at h
  · rename_i c
    unfold shOk at c
    rw [Bool.and_eq_true] at c
    have hl := h.len
    have h10 := wantsB_len c.1
    refine ⟨fun x hx => ?_, by omega⟩
    obtain ⟨j, hj, rfl⟩ := List.getElem_of_mem hx
    have hjL : j < L.length := by omega
    have h1 := h.pos (fun j hj => (wantsB_get c.1 j hj).1) j hj hjL
    have h2 := wantsB_get c.1 j hjL
    omega
  · subst h
    exact ⟨fun x hx => (by cases hx), by simp⟩
end Go.Proofs.Ytllignhfkkeinaa
