/- Rows of Steps: copied, held against each other, marked, read again, counted. -/
import Derived.Test.YtdplpkobpoiioaaInts
import Derived.Test.YtdplpkobpoiioaaLater

namespace Go.Proofs.Ytdplpkobpoiioaa
open Go.RowKit
set_option linter.unusedSimpArgs false
set_option linter.unusedVariables false

structure St where
  k : Int
  c : Int
  a : Int
def St.cs (s : St) : List Value := [.int .i64 s.k, .int .i64 s.c, .int .i64 s.a]
def sv (L : List St) : List Value := L.flatMap St.cs
theorem cs_len (s : St) : s.cs.length = 3 := rfl
theorem sv_len (L : List St) : (sv L).length = L.length * 3 := flat_length St.cs 3 cs_len L
theorem sv_get (L : List St) (k : Nat) (h : k < L.length) : (sv L)[k * 3]? = some (.int .i64 L[k].k) ∧ (sv L)[k * 3 + 1]? = some (.int .i64 L[k].c) ∧ (sv L)[k * 3 + 2]? = some (.int .i64 L[k].a) :=
  ⟨flat_get St.cs 3 cs_len L k h 0 (by decide), flat_get St.cs 3 cs_len L k h 1 (by decide), flat_get St.cs 3 cs_len L k h 2 (by decide)⟩

theorem toStep1 (s : St) (w : World) : Calls Try.prog 71 #[.agg #[.int .i64 s.k, .int .i64 s.c, .int .i64 s.a]] w fun x w' => x = .returned (.agg #[.int .i64 s.k, .int .i64 s.c, .int .i64 s.a]) ∧ Below w.heap.size w w' := by
  go_enter Try.func71, Try.ntmps71
  go_wp2
  go_returns
  exact ⟨rfl, (by repeat' (first | (with_reducible exact Below.refl _ _) | (with_reducible refine Below.drew ?_) | (with_reducible refine bo_drewN _ ?_) | (with_reducible refine bo_alloc ?_ _) | (refine bchain ?_ (by with_reducible assumption)) | (with_reducible refine Below.setCell ?_ ?_ _) | go_size))⟩

theorem eqStep1 (s : St) (w : World) : Calls Try.prog 72 #[.agg #[.int .i64 s.k, .int .i64 s.c, .int .i64 s.a], .agg #[.int .i64 s.k, .int .i64 s.c, .int .i64 s.a]] w fun x w' => x = .returned (.bool true) ∧ Below w.heap.size w w' := by
  go_enter Try.func72, Try.ntmps72
  go_wp2
  go_ret
  exact ⟨rfl, (by repeat' (first | (with_reducible exact Below.refl _ _) | (with_reducible refine Below.drew ?_) | (with_reducible refine bo_drewN _ ?_) | (with_reducible refine bo_alloc ?_ _) | (refine bchain ?_ (by with_reducible assumption)) | (with_reducible refine Below.setCell ?_ ?_ _) | go_size))⟩

theorem szSteps (v : Value) (n : Nat) (xs : List Value) (left : Int) (w : World) (hr : Reads w v n 3 xs) (h0 : 0 ≤ left) (h1 : left ≤ 1048576) :
    Calls Try.prog 68 #[v, .int .i64 left] w fun x w' => x = .returned (.int .i64 (if left - n < 0 then -1 else left - n)) ∧ w' = w := by
  obtain ⟨hl, ad, cap, rfl, h2, h3, h4⟩ := hr
  clear h4
  unfold maxLen at h3
  by_cases h : left - n < 0
  · go_enter Try.func68, Try.ntmps68
    go_wp2
    go_ret
    exact ⟨by simp [h], rfl⟩
  · go_enter Try.func68, Try.ntmps68
    go_wp2
    go_ret
    exact ⟨by simp [h], rfl⟩

set_option maxHeartbeats 1000000 in
theorem toSteps (L : List St) (v : Value) (w : World) (hr0 : Reads w v L.length 3 (sv L)) (hL : L.length ≤ 1048576) :
    Calls Try.prog 69 #[v] w fun x w' => ∃ v', x = .returned v' ∧ w'.ownsRow w.heap.size 44 3 v' L.length (sv L) ∧ Below w.heap.size w w' := by
  obtain ⟨M, hM, hmk⟩ := make_row 39 44 (.agg #[.int .i64 0, .int .i64 0, .int .i64 0]) 3 24 Try.underlying39 (by kernel_rfl) rfl (by decide) (by decide) L.length hL
  obtain ⟨hl, ad, cap, rfl, h1, h2, h3⟩ := hr0
  have ho := owns_made w M 44 3 L.length hM hL
  have H3 := hide h3
  clear h3
  unfold maxLen at h2
  go_enter Try.func69, Try.ntmps69
  go_wp2_with fail
  go_loopw [4] (fun i wr => ∃ (k : Nat) (xs : List Value), i = .int .i64 k ∧ k ≤ L.length ∧ wr.ownsRow w.heap.size 44 3 (.slice (some ⟨w.heap.size, 0, none⟩) L.length L.length) L.length xs ∧ (∀ j, j < k * 3 → xs[j]? = (sv L)[j]?) ∧ Below w.heap.size w wr) (fun i _ => L.length - (intOf i).toNat)
  case atStart => exact ⟨0, _, rfl, Nat.zero_le _, ho, fun j hj => absurd hj (by omega), (Below.refl _ _).alloc (Nat.le_refl _) _⟩
  case round =>
    obtain ⟨k, xs, rfl, hk, hown, hx, hb⟩ := hrel
    by_cases hlt : k < L.length
    · obtain ⟨b, o, rfl, hbw, hc⟩ := H3.out (by omega)
      obtain ⟨s0, s1, s2⟩ := sv_get L k hlt
      have c0 : wr.cell? ⟨b, o + k * 3, none⟩ = some (.int .i64 L[k].k) := by rw [hb.cell (p := ⟨b, o + k * 3, none⟩) hbw]; exact hc _ _ s0
      have c1 : wr.cell? ⟨b, o + k * 3 + 1, none⟩ = some (.int .i64 L[k].c) := by rw [hb.cell (p := ⟨b, o + k * 3 + 1, none⟩) hbw]; exact hc _ _ s1
      have c2 : wr.cell? ⟨b, o + k * 3 + 2, none⟩ = some (.int .i64 L[k].a) := by rw [hb.cell (p := ⟨b, o + k * 3 + 2, none⟩) hbw]; exact hc _ _ s2
      have HX := hide hx
      have S0 := hide s0; have S1 := hide s1; have S2 := hide s2; clear s0 s1 s2
      have HOwn := hide hown
      clear hx hown hc
      go_wp2_with fail
      refine (toStep1 L[k] _).mono ?_; rintro x w1 ⟨rfl, hb1⟩
      have hown1 := owns_new HOwn.out hb1
      have hbb := bchain hb hb1
      obtain ⟨g, cap', e1, e2, e3, e4, _, _, e5, e6⟩ := owns_open hown1 (by omega)
      simp only [Value.slice.injEq, Option.some.injEq, Addr.mk.injEq] at e1
      obtain ⟨⟨rfl, _, _⟩, _, rfl⟩ := e1
      have hl1 := hown1.1
      obtain ⟨u0, hu0⟩ : ∃ u, w1.cell? ⟨w.heap.size, k * 3, none⟩ = some u := ⟨_, e5 _ _ (List.getElem?_eq_getElem (by omega))⟩
      obtain ⟨u1, hu1⟩ : ∃ u, w1.cell? ⟨w.heap.size, k * 3 + 1, none⟩ = some u := ⟨_, e5 _ _ (List.getElem?_eq_getElem (by omega))⟩
      obtain ⟨u2, hu2⟩ : ∃ u, w1.cell? ⟨w.heap.size, k * 3 + 2, none⟩ = some u := ⟨_, e5 _ _ (List.getElem?_eq_getElem (by omega))⟩
      have HO := hide (owns_set (owns_set (owns_set hown1 rfl (k * 3) (.int .i64 L[k].k)) rfl (k * 3 + 1) (.int .i64 L[k].c)) rfl (k * 3 + 2) (.int .i64 L[k].a))
      have HP := hide (pre_set ((k + 1) * 3) (pre_set (k * 3 + 2) (pre_set (k * 3 + 1) HX.out S0.out (by omega) rfl) S1.out (by simp; omega) rfl) S2.out (by simp; omega) (by omega))
      clear e5 e2 hown1
      go_wp2_with fail
      exact ⟨⟨k + 1, _, by go_num, by omega, HO.out, HP.out, ((hbb.setCell (by simp) _).setCell (by simp) _).setCell (by simp) _⟩, by simp [intOf]; omega⟩
    · obtain rfl : k = L.length := by omega
      have hxs : xs = sv L := pre_end hown.1 (sv_len L) hx
      subst hxs
      go_wp2_with fail
      go_ret
      exact ⟨_, rfl, hown, hb⟩

set_option maxHeartbeats 1000000 in
theorem eqSteps (L : List St) (v v' : Value) (w : World) (hr0 : Reads w v L.length 3 (sv L)) (hr1 : Reads w v' L.length 3 (sv L)) :
    Calls Try.prog 70 #[v, v'] w fun x w' => x = .returned (.bool true) ∧ Below w.heap.size w w' := by
  obtain ⟨hl, ad, cap, rfl, h1, h2, h3⟩ := hr0
  obtain ⟨hl', ad', cap', rfl, h1', h2', h3'⟩ := hr1
  have H3 := hide h3
  have H3' := hide h3'
  clear h3 h3'
  unfold maxLen at h2 h2'
  go_enter Try.func70, Try.ntmps70
  go_wp2_with fail
  go_loopw [5] (fun i wr => ∃ (k : Nat), i = .int .i64 k ∧ k ≤ L.length ∧ Below w.heap.size w wr) (fun i _ => L.length - (intOf i).toNat)
  case atStart => exact ⟨0, rfl, Nat.zero_le _, Below.refl _ _⟩
  case round =>
    obtain ⟨k, rfl, hk, hb⟩ := hrel
    by_cases hlt : k < L.length
    · obtain ⟨b, o, rfl, hbw, hc⟩ := H3.out (by omega)
      obtain ⟨b', o', rfl, hbw', hc'⟩ := H3'.out (by omega)
      obtain ⟨s0, s1, s2⟩ := sv_get L k hlt
      have c0 : wr.cell? ⟨b, o + k * 3, none⟩ = some (.int .i64 L[k].k) := by rw [hb.cell (p := ⟨b, o + k * 3, none⟩) hbw]; exact hc _ _ s0
      have c1 : wr.cell? ⟨b, o + k * 3 + 1, none⟩ = some (.int .i64 L[k].c) := by rw [hb.cell (p := ⟨b, o + k * 3 + 1, none⟩) hbw]; exact hc _ _ s1
      have c2 : wr.cell? ⟨b, o + k * 3 + 2, none⟩ = some (.int .i64 L[k].a) := by rw [hb.cell (p := ⟨b, o + k * 3 + 2, none⟩) hbw]; exact hc _ _ s2
      have d0 : wr.cell? ⟨b', o' + k * 3, none⟩ = some (.int .i64 L[k].k) := by rw [hb.cell (p := ⟨b', o' + k * 3, none⟩) hbw']; exact hc' _ _ s0
      have d1 : wr.cell? ⟨b', o' + k * 3 + 1, none⟩ = some (.int .i64 L[k].c) := by rw [hb.cell (p := ⟨b', o' + k * 3 + 1, none⟩) hbw']; exact hc' _ _ s1
      have d2 : wr.cell? ⟨b', o' + k * 3 + 2, none⟩ = some (.int .i64 L[k].a) := by rw [hb.cell (p := ⟨b', o' + k * 3 + 2, none⟩) hbw']; exact hc' _ _ s2
      have hsb := hb.size
      have hb1 : b < wr.heap.size := by omega
      have hb2 : b' < wr.heap.size := by omega
      clear hc hc' s0 s1 s2
      go_wp2_with fail
      have q0 : ∀ y : Later wr, y.w.cell? ⟨b, o + k * 3, none⟩ = some (.int .i64 L[k].k) := fun y => (y.b.cell (p := ⟨b, o + k * 3, none⟩) hb1).trans c0
      have q1 : ∀ y : Later wr, y.w.cell? ⟨b, o + k * 3 + 1, none⟩ = some (.int .i64 L[k].c) := fun y => (y.b.cell (p := ⟨b, o + k * 3 + 1, none⟩) hb1).trans c1
      have q2 : ∀ y : Later wr, y.w.cell? ⟨b, o + k * 3 + 2, none⟩ = some (.int .i64 L[k].a) := fun y => (y.b.cell (p := ⟨b, o + k * 3 + 2, none⟩) hb1).trans c2
      have r0 : ∀ y : Later wr, y.w.cell? ⟨b', o' + k * 3, none⟩ = some (.int .i64 L[k].k) := fun y => (y.b.cell (p := ⟨b', o' + k * 3, none⟩) hb2).trans d0
      have r1 : ∀ y : Later wr, y.w.cell? ⟨b', o' + k * 3 + 1, none⟩ = some (.int .i64 L[k].c) := fun y => (y.b.cell (p := ⟨b', o' + k * 3 + 1, none⟩) hb2).trans d1
      have r2 : ∀ y : Later wr, y.w.cell? ⟨b', o' + k * 3 + 2, none⟩ = some (.int .i64 L[k].a) := fun y => (y.b.cell (p := ⟨b', o' + k * 3 + 2, none⟩) hb2).trans d2
      clear c0 c1 c2 d0 d1 d2
      have hne : Nonempty (Later wr) := ⟨⟨wr, Below.refl _ _⟩⟩; refine region_later (by kernel_rfl) (by kernel_rfl) ?_
      repeat (go_big_quiet_step (fail))
      go_big_quiet_want; go_big_quiet_op; refine ⟨.bool true, fun y => later_calls (x := y) (eqStep1 L[k] y.w), ?_⟩; go_big_quiet_on
      repeat (go_big_quiet_step (fail))
      refine wpQuiet_nil ?_; intro _ hw'; obtain ⟨y, hw''⟩ := hw'; subst hw''; have hby := y.b
      go_wp2_with fail
      go_roundw
      case rel => exact ⟨k + 1, by go_num, by omega, bchain hb hby⟩
      case measure => simp [intOf]; omega
    · go_wp2_with fail
      go_ret
      exact ⟨rfl, hb⟩

set_option maxHeartbeats 1000000 in
theorem heldSteps (n : Nat) (k : Int) (v : Value) (w : World) (hr0 : Reads w v n 3 (mk k (n * 3))) (hk0 : 0 ≤ k) (hk1 : k + n * 3 ≤ 1000000000) :
    Calls Try.prog 65 #[v, .int .i64 k] w fun x w' => x = .returned (.int .i64 (k + n * 3)) ∧ w' = w := by
  obtain ⟨hl, ad, cap, rfl, h1, h2, h3⟩ := hr0
  have H3 := hide h3
  clear h3
  unfold maxLen at h2
  go_enter Try.func65, Try.ntmps65
  go_wp2_with fail
  go_loop [1, 5] (fun kk i => ∃ (j : Nat), i = .int .i64 j ∧ kk = .int .i64 (k + j * 3) ∧ j ≤ n) (fun _ i => n - (intOf i).toNat)
  case atStart => exact ⟨0, rfl, by simp, Nat.zero_le _⟩
  case round =>
    obtain ⟨j, rfl, rfl, hj⟩ := hrel
    by_cases hlt : j < n
    · obtain ⟨b, o, rfl, hbw, hc⟩ := H3.out (by omega)
      have c0 : w.cell? ⟨b, o + j * 3, none⟩ = some (.int .i64 (k + j * 3)) := by have := hc _ _ (mk_get k (n * 3) (j * 3) (by omega)); simpa using this
      have c1 : w.cell? ⟨b, o + j * 3 + 1, none⟩ = some (.int .i64 (k + j * 3 + 1)) := by have := hc _ _ (mk_get k (n * 3) (j * 3 + 1) (by omega)); simpa [Int.add_assoc, Nat.add_assoc] using this
      have c2 : w.cell? ⟨b, o + j * 3 + 2, none⟩ = some (.int .i64 (k + j * 3 + 2)) := by have := hc _ _ (mk_get k (n * 3) (j * 3 + 2) (by omega)); simpa [Int.add_assoc, Nat.add_assoc] using this
      clear hc
      go_wp2_with fail
      go_round
      case rel => exact ⟨j + 1, by go_num, by go_num, by omega⟩
      case measure => simp [intOf]; omega
    · obtain rfl : j = n := by omega
      go_wp2_with fail
      go_ret
      exact ⟨rfl, rfl⟩

set_option maxHeartbeats 1000000 in
theorem markSteps (n : Nat) (k : Int) (v : Value) (xs : List Value) (lo : Nat) (w : World) (ho : w.ownsRow lo 44 3 v n xs) (hk0 : 0 ≤ k) (hk1 : k + n * 3 ≤ 1000000000) :
    Calls Try.prog 64 #[v, .int .i64 k] w fun x w' => x = .returned (.int .i64 (k + n * 3)) ∧ w'.ownsRow lo 44 3 v n (mk k (n * 3)) ∧ w.grownBy w' v.ownBlock := by
  obtain ⟨ad, cap, rfl, h1, h2⟩ := owns_form ho
  unfold maxLen at h2
  have HO := hide ho
  clear ho
  go_enter Try.func64, Try.ntmps64
  go_wp2_with fail
  go_loopw [1, 5] (fun kk i wr => ∃ (j : Nat) (ys : List Value), i = .int .i64 j ∧ kk = .int .i64 (k + j * 3) ∧ j ≤ n ∧ wr.ownsRow lo 44 3 (.slice ad n cap) n ys ∧ (∀ t, t < j * 3 → ys[t]? = (mk k (n * 3))[t]?) ∧ w.grownBy wr (Value.slice ad n cap).ownBlock) (fun _ i _ => n - (intOf i).toNat)
  case atStart => exact ⟨0, _, rfl, by simp, Nat.zero_le _, HO.out, fun t ht => absurd ht (by omega), gb_refl _ _⟩
  case round =>
    obtain ⟨j, ys, rfl, rfl, hj, hown, hy, ht⟩ := hrel
    by_cases hlt : j < n
    · obtain ⟨g, cap', e1, e2, e3, e4, _, _, e5, e6⟩ := owns_open hown (by omega)
      simp only [Value.slice.injEq] at e1
      obtain ⟨rfl, _, rfl⟩ := e1
      have hl1 := hown.1
      have HO := hide (owns_set (g := g) (owns_set (g := g) (owns_set (g := g) hown rfl (j * 3) (.int .i64 (k + j * 3))) rfl (j * 3 + 1) (.int .i64 (k + j * 3 + 1))) rfl (j * 3 + 2) (.int .i64 (k + j * 3 + 1 + 1)))
      have HP := hide (pre_set ((j + 1) * 3) (pre_set (j * 3 + 2) (pre_set (j * 3 + 1) (a := .int .i64 (k + j * 3)) hy (by rw [mk_get k (n * 3) (j * 3) (by omega)]; simp) (by omega) rfl) (a := .int .i64 (k + j * 3 + 1)) (by rw [mk_get k (n * 3) (j * 3 + 1) (by omega)]; simp [Int.add_assoc]) (by simp; omega) rfl) (a := .int .i64 (k + j * 3 + 1 + 1)) (by rw [mk_get k (n * 3) (j * 3 + 2) (by omega)]; simp [Int.add_assoc]) (by simp; omega) (by omega))
      obtain ⟨u0, hu0⟩ : ∃ u, wr.cell? ⟨g, j * 3, none⟩ = some u := ⟨_, e5 _ _ (List.getElem?_eq_getElem (by omega))⟩
      obtain ⟨u1, hu1⟩ : ∃ u, wr.cell? ⟨g, j * 3 + 1, none⟩ = some u := ⟨_, e5 _ _ (List.getElem?_eq_getElem (by omega))⟩
      obtain ⟨u2, hu2⟩ : ∃ u, wr.cell? ⟨g, j * 3 + 2, none⟩ = some u := ⟨_, e5 _ _ (List.getElem?_eq_getElem (by omega))⟩
      clear e5 hy hown e2
      go_wp2_with fail
      refine ⟨⟨j + 1, _, ?_, ?_, ?_, HO.out, ?_, ?_⟩, ?_⟩
      · go_num
      · exact int_eq (by omega)
      · omega
      · exact HP.out
      · refine gb_set ?_ _ _ (by rfl); refine gb_set ?_ _ _ (by rfl); refine gb_set ?_ _ _ (by rfl); exact ht
      · simp [intOf]; omega
    · obtain rfl : j = n := by omega
      have hys : ys = mk k (j * 3) := pre_end hown.1 (mk_len _ _) hy
      subst hys
      go_wp2_with fail
      go_ret
      exact ⟨rfl, hown, ht⟩
end Go.Proofs.Ytdplpkobpoiioaa
