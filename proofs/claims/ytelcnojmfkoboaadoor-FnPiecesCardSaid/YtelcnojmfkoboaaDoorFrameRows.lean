/- Rows of Frames: read, held against each other, marked, read again; one Frame that came in. (Written ahead of the landing of chapter 7: not yet built in a seat that has these functions.) -/
import Derived.Test.YtelcnojmfkoboaaDoorFrameMath
import Derived.Test.YtelcnojmfkoboaaDoorMade
import Derived.Test.YtelcnojmfkoboaaDoorMarkText
import Derived.Test.YtelcnojmfkoboaaDoorLater
import Derived.Test.YtelcnojmfkoboaaDoorOpenRows

namespace Go.Proofs.YtelcnojmfkoboaaDoor
open Go.RowKit
set_option maxRecDepth 100000
set_option linter.unusedSimpArgs false
set_option linter.unusedVariables false

def Fr.cs (f : Fr) : List Value := [.int .i64 f.k, .int .i64 f.fl, .int .i64 f.st, .string f.b]
/-- As Go's types have it. -/
def Fr.fine (f : Fr) : Prop := f.b.size ≤ 9223372036854775807
def fr (L : List Fr) : List Value := L.flatMap Fr.cs
theorem frcs_len (s : Fr) : s.cs.length = 4 := rfl
theorem fr_len (L : List Fr) : (fr L).length = L.length * 4 := flat_length Fr.cs 4 frcs_len L
theorem fr_get (L : List Fr) (k : Nat) (h : k < L.length) : (fr L)[k * 4]? = some (.int .i64 L[k].k) ∧ (fr L)[k * 4 + 1]? = some (.int .i64 L[k].fl) ∧ (fr L)[k * 4 + 2]? = some (.int .i64 L[k].st) ∧ (fr L)[k * 4 + 3]? = some (.string L[k].b) :=
  ⟨flat_get Fr.cs 4 frcs_len L k h 0 (by decide), flat_get Fr.cs 4 frcs_len L k h 1 (by decide), flat_get Fr.cs 4 frcs_len L k h 2 (by decide), flat_get Fr.cs 4 frcs_len L k h 3 (by decide)⟩
theorem fr_one (L : List Fr) : ∀ u ∈ fr L, u.oneCell' = true := by
  intro u hu
  obtain ⟨f, _, hf⟩ := List.mem_flatMap.1 hu
  simp only [Fr.cs, List.mem_cons, List.not_mem_nil, or_false] at hf
  rcases hf with rfl | rfl | rfl | rfl <;> rfl
theorem fr_app (A B : List Fr) : fr (A ++ B) = fr A ++ fr B := by simp [fr]

theorem owns_frame (w : World) (f : Fr) : (w.alloc (.cells #[.int .i64 f.k, .int .i64 f.fl, .int .i64 f.st, .string f.b] 29)).ownsRow w.heap.size 29 4 (.slice (some ⟨w.heap.size, 0, none⟩) 1 1) 1 f.cs :=
  ⟨rfl, .inr ⟨w.heap.size, 1, #[.int .i64 f.k, .int .i64 f.fl, .int .i64 f.st, .string f.b], rfl, Nat.le_refl _, World.alloc_heap_new w _, Nat.le_refl _, by simp [maxLen], by simp, by simp [Fr.cs]⟩⟩
theorem fr_snoc (L : List Fr) (f : Fr) : fr (L ++ [f]) = fr L ++ f.cs := by rw [fr_app]; simp [fr]
theorem eqFrame1 (f : Fr) (w : World) : Calls Tryd.prog 52 #[.agg #[.int .i64 (f).k, .int .i64 (f).fl, .int .i64 (f).st, .string (f).b], .agg #[.int .i64 (f).k, .int .i64 (f).fl, .int .i64 (f).st, .string (f).b]] w fun x w' => x = .returned (.bool true) ∧ Below w.heap.size w w' := by
  go_enter Tryd.func52, Tryd.ntmps52
  go_wp2
  go_ret
  exact ⟨rfl, (by repeat' (first | (with_reducible exact Below.refl _ _) | (with_reducible refine Below.drew ?_) | (with_reducible refine bo_drewN _ ?_) | (with_reducible refine bo_alloc ?_ _) | (refine bchain ?_ (by with_reducible assumption)) | (with_reducible refine Below.setCell ?_ ?_ _) | go_size))⟩
set_option maxHeartbeats 1000000 in
theorem eqFrames (L : List Fr) (v v' : Value) (w : World) (hr0 : Reads w v L.length 4 (fr L)) (hr1 : Reads w v' L.length 4 (fr L)) :
    Calls Tryd.prog 26 #[v, v'] w fun x w' => x = .returned (.bool true) ∧ Below w.heap.size w w' := by
  obtain ⟨hl, ad, cap, rfl, h1, h2, h3⟩ := hr0
  obtain ⟨hl', ad', cap', rfl, h1', h2', h3'⟩ := hr1
  have H3 := hide h3
  have H3' := hide h3'
  clear h3 h3'
  unfold maxLen at h2 h2'
  go_enter Tryd.func26, Tryd.ntmps26
  go_wp2_with fail
  go_loopw [5] (fun i wr => ∃ (k : Nat), i = .int .i64 k ∧ k ≤ L.length ∧ Below w.heap.size w wr) (fun i _ => L.length - (intOf i).toNat)
  case atStart => exact ⟨0, rfl, Nat.zero_le _, Below.refl _ _⟩
  case round =>
    obtain ⟨k, rfl, hk, hb⟩ := hrel
    by_cases hlt : k < L.length
    · obtain ⟨b, o, rfl, hbw, hc⟩ := H3.out (by omega)
      obtain ⟨b', o', rfl, hbw', hc'⟩ := H3'.out (by omega)
      obtain ⟨s0, s1, s2, s3⟩ := fr_get L k hlt
      have c0 : wr.cell? ⟨b, o + k * 4, none⟩ = some (.int .i64 L[k].k) := by rw [hb.cell (p := ⟨b, o + k * 4, none⟩) hbw]; exact hc _ _ s0
      have c1 : wr.cell? ⟨b, o + k * 4 + 1, none⟩ = some (.int .i64 L[k].fl) := by rw [hb.cell (p := ⟨b, o + k * 4 + 1, none⟩) hbw]; exact hc _ _ s1
      have c2 : wr.cell? ⟨b, o + k * 4 + 2, none⟩ = some (.int .i64 L[k].st) := by rw [hb.cell (p := ⟨b, o + k * 4 + 2, none⟩) hbw]; exact hc _ _ s2
      have c3 : wr.cell? ⟨b, o + k * 4 + 3, none⟩ = some (.string L[k].b) := by rw [hb.cell (p := ⟨b, o + k * 4 + 3, none⟩) hbw]; exact hc _ _ s3
      have d0 : wr.cell? ⟨b', o' + k * 4, none⟩ = some (.int .i64 L[k].k) := by rw [hb.cell (p := ⟨b', o' + k * 4, none⟩) hbw']; exact hc' _ _ s0
      have d1 : wr.cell? ⟨b', o' + k * 4 + 1, none⟩ = some (.int .i64 L[k].fl) := by rw [hb.cell (p := ⟨b', o' + k * 4 + 1, none⟩) hbw']; exact hc' _ _ s1
      have d2 : wr.cell? ⟨b', o' + k * 4 + 2, none⟩ = some (.int .i64 L[k].st) := by rw [hb.cell (p := ⟨b', o' + k * 4 + 2, none⟩) hbw']; exact hc' _ _ s2
      have d3 : wr.cell? ⟨b', o' + k * 4 + 3, none⟩ = some (.string L[k].b) := by rw [hb.cell (p := ⟨b', o' + k * 4 + 3, none⟩) hbw']; exact hc' _ _ s3
      have hsb := hb.size
      have hb1 : b < wr.heap.size := by omega
      have hb2 : b' < wr.heap.size := by omega
      clear hc hc' s0 s1 s2 s3
      go_wp2_with fail
      have q0 : ∀ y : Later wr, y.w.cell? ⟨b, o + k * 4, none⟩ = some (.int .i64 L[k].k) := fun y => (y.b.cell (p := ⟨b, o + k * 4, none⟩) hb1).trans c0
      have q1 : ∀ y : Later wr, y.w.cell? ⟨b, o + k * 4 + 1, none⟩ = some (.int .i64 L[k].fl) := fun y => (y.b.cell (p := ⟨b, o + k * 4 + 1, none⟩) hb1).trans c1
      have q2 : ∀ y : Later wr, y.w.cell? ⟨b, o + k * 4 + 2, none⟩ = some (.int .i64 L[k].st) := fun y => (y.b.cell (p := ⟨b, o + k * 4 + 2, none⟩) hb1).trans c2
      have q3 : ∀ y : Later wr, y.w.cell? ⟨b, o + k * 4 + 3, none⟩ = some (.string L[k].b) := fun y => (y.b.cell (p := ⟨b, o + k * 4 + 3, none⟩) hb1).trans c3
      have r0 : ∀ y : Later wr, y.w.cell? ⟨b', o' + k * 4, none⟩ = some (.int .i64 L[k].k) := fun y => (y.b.cell (p := ⟨b', o' + k * 4, none⟩) hb2).trans d0
      have r1 : ∀ y : Later wr, y.w.cell? ⟨b', o' + k * 4 + 1, none⟩ = some (.int .i64 L[k].fl) := fun y => (y.b.cell (p := ⟨b', o' + k * 4 + 1, none⟩) hb2).trans d1
      have r2 : ∀ y : Later wr, y.w.cell? ⟨b', o' + k * 4 + 2, none⟩ = some (.int .i64 L[k].st) := fun y => (y.b.cell (p := ⟨b', o' + k * 4 + 2, none⟩) hb2).trans d2
      have r3 : ∀ y : Later wr, y.w.cell? ⟨b', o' + k * 4 + 3, none⟩ = some (.string L[k].b) := fun y => (y.b.cell (p := ⟨b', o' + k * 4 + 3, none⟩) hb2).trans d3
      clear c0 c1 c2 c3 d0 d1 d2 d3
      have hne : Nonempty (Later wr) := ⟨⟨wr, Below.refl _ _⟩⟩; refine region_later (by kernel_rfl) (by kernel_rfl) ?_
      repeat (go_big_quiet_step (fail))
      go_big_quiet_want; go_big_quiet_op; refine ⟨.bool true, fun y => later_calls (x := y) (eqFrame1 L[k] y.w), ?_⟩; go_big_quiet_on
      repeat (go_big_quiet_step (fail))
      refine wpQuiet_nil ?_; intro _ hw'; obtain ⟨y, hw''⟩ := hw'; subst hw''; have hby := y.b
      go_wp2_with fail
      go_roundw
      case rel => exact ⟨k + 1, by go_num, by omega, bchain hb hby⟩
      case measure => simp [intOf]; omega
    · go_wp2_with fail
      go_ret
      exact ⟨rfl, hb⟩
/-- The marks of a row of n Frames, from k on. -/
def mkC (k j : Nat) : List Value := [.int .i64 ((k + j * 4 : Nat) : Int), .int .i64 (((k + j * 4 : Nat) : Int) + 1), .int .i64 (((k + j * 4 : Nat) : Int) + 2), .string (mtx (k + j * 4 + 3))]
theorem mkC_len (k j : Nat) : (mkC k j).length = 4 := rfl
def mkFr (k n : Nat) : List Value := (List.range n).flatMap (mkC k)
theorem mkFr_len (k n : Nat) : (mkFr k n).length = n * 4 := by have := flat_length (mkC k) 4 (mkC_len k) (List.range n); simpa [mkFr] using this
theorem mkFr_get (k n j : Nat) (h : j < n) : (mkFr k n)[j * 4]? = some (.int .i64 ((k + j * 4 : Nat) : Int)) ∧ (mkFr k n)[j * 4 + 1]? = some (.int .i64 (((k + j * 4 : Nat) : Int) + 1)) ∧ (mkFr k n)[j * 4 + 2]? = some (.int .i64 (((k + j * 4 : Nat) : Int) + 2)) ∧ (mkFr k n)[j * 4 + 3]? = some (.string (mtx (k + j * 4 + 3))) := by
  have hg := flat_get (mkC k) 4 (mkC_len k) (List.range n) j (by simpa using h)
  have h0 := hg 0 (by decide)
  have h1 := hg 1 (by decide)
  have h2 := hg 2 (by decide)
  have h3 := hg 3 (by decide)
  rw [List.getElem_range] at h0 h1 h2 h3
  exact ⟨h0, h1, h2, h3⟩
set_option maxHeartbeats 1000000 in
theorem heldFrames (n k : Nat) (v : Value) (w : World) (hr0 : Reads w v n 4 (mkFr k n)) (hk1 : k + n * 4 ≤ 1000000000) :
    Calls Tryd.prog 28 #[v, .int .i64 k] w fun x w' => x = .returned (.int .i64 ((k + n * 4 : Nat) : Int)) ∧ Below w.heap.size w w' := by
  obtain ⟨hl, ad, cap, rfl, h1, h2, h3⟩ := hr0
  have H3 := hide h3
  clear h3
  unfold maxLen at h2
  go_enter Tryd.func28, Tryd.ntmps28
  go_wp2_with fail
  go_loopw [1, 5] (fun kk i wr => ∃ (j : Nat), i = .int .i64 j ∧ kk = .int .i64 ((k + j * 4 : Nat) : Int) ∧ j ≤ n ∧ Below w.heap.size w wr) (fun _ i _ => n - (intOf i).toNat)
  case atStart => exact ⟨0, rfl, by simp, Nat.zero_le _, Below.refl _ _⟩
  case round =>
    obtain ⟨j, rfl, rfl, hj, hb⟩ := hrel
    by_cases hlt : j < n
    · obtain ⟨b, o, rfl, hbw, hc⟩ := H3.out (by omega)
      obtain ⟨s0, s1, s2, s3⟩ := mkFr_get k n j hlt
      obtain ⟨K, hK⟩ : ∃ K : Nat, K = k + j * 4 := ⟨_, rfl⟩
      rw [← hK] at s0 s1 s2 s3
      have c0 : wr.cell? ⟨b, o + j * 4, none⟩ = some (.int .i64 (K : Int)) := by rw [hb.cell (p := ⟨b, o + j * 4, none⟩) hbw]; exact hc _ _ s0
      have c1 : wr.cell? ⟨b, o + j * 4 + 1, none⟩ = some (.int .i64 ((K : Int) + 1)) := by rw [hb.cell (p := ⟨b, o + j * 4 + 1, none⟩) hbw]; exact hc _ _ s1
      have c2 : wr.cell? ⟨b, o + j * 4 + 2, none⟩ = some (.int .i64 ((K : Int) + 2)) := by rw [hb.cell (p := ⟨b, o + j * 4 + 2, none⟩) hbw]; exact hc _ _ s2
      have c3 : wr.cell? ⟨b, o + j * 4 + 3, none⟩ = some (.string (mtx (K + 3))) := by rw [hb.cell (p := ⟨b, o + j * 4 + 3, none⟩) hbw]; exact hc _ _ s3
      have hsb := hb.size
      have hb1 : b < wr.heap.size := by omega
      clear hc s0 s1 s2 s3
      have hkb : K + 3 ≤ 1000000000 := by omega
      rw [← hK]
      have HK := hide hK
      clear hK
      go_wp2_with fail
      have q0 : ∀ y : Later wr, y.w.cell? ⟨b, o + j * 4 + 3, none⟩ = some (.string (mtx (K + 3))) := fun y => (y.b.cell (p := ⟨b, o + j * 4 + 3, none⟩) hb1).trans c3
      have hne : Nonempty (Later wr) := ⟨⟨wr, Below.refl _ _⟩⟩; refine region_later (by kernel_rfl) (by kernel_rfl) ?_
      repeat (go_big_quiet_step (fail))
      go_big_quiet_want; go_big_quiet_op; refine ⟨.string (mtx (K + 3)), fun y => later_calls (x := y) ((fun u => markTx (K + 3) u (by omega)) y.w), ?_⟩; go_big_quiet_on
      repeat (go_big_quiet_step (fail))
      refine wpQuiet_nil ?_; intro _ hw'; obtain ⟨y, hw''⟩ := hw'; subst hw''; have hby := y.b
      go_wp2_with fail
      go_roundw
      case rel => exact ⟨j + 1, by go_num, int_eq (by have := HK.out; omega), by omega, bchain hb hby⟩
      case measure => simp [intOf]; omega
    · obtain rfl : j = n := by omega
      go_wp2_with fail
      go_ret
      exact ⟨rfl, hb⟩
set_option maxHeartbeats 1000000 in
theorem markFrames (n k : Nat) (v : Value) (xs : List Value) (lo : Nat) (w : World) (ho : w.ownsRow lo 29 4 v n xs) (hk1 : k + n * 4 ≤ 1000000000) :
    Calls Tryd.prog 27 #[v, .int .i64 k] w fun x w' => x = .returned (.int .i64 ((k + n * 4 : Nat) : Int)) ∧ w'.ownsRow lo 29 4 v n (mkFr k n) ∧ w.grownBy w' v.ownBlock := by
  obtain ⟨ad, cap, rfl, h1, h2⟩ := owns_form ho
  unfold maxLen at h2
  have HO := hide ho
  clear ho
  go_enter Tryd.func27, Tryd.ntmps27
  go_wp2_with fail
  go_loopw [1, 5] (fun kk i wr => ∃ (j : Nat) (ys : List Value), i = .int .i64 j ∧ kk = .int .i64 ((k + j * 4 : Nat) : Int) ∧ j ≤ n ∧ wr.ownsRow lo 29 4 (.slice ad n cap) n ys ∧ (∀ t, t < j * 4 → ys[t]? = (mkFr k n)[t]?) ∧ w.grownBy wr (Value.slice ad n cap).ownBlock) (fun _ i _ => n - (intOf i).toNat)
  case atStart => exact ⟨0, _, rfl, by simp, Nat.zero_le _, HO.out, fun t ht => absurd ht (by omega), gb_refl _ _⟩
  case round =>
    obtain ⟨j, ys, rfl, rfl, hj, hown, hy, ht⟩ := hrel
    by_cases hlt : j < n
    · obtain ⟨s0, s1, s2, s3⟩ := mkFr_get k n j hlt
      obtain ⟨K, hK⟩ : ∃ K : Nat, K = k + j * 4 := ⟨_, rfl⟩
      rw [← hK] at s0 s1 s2 s3 ⊢
      have hkb : K + 3 ≤ 1000000000 := by omega
      have HK := hide hK
      obtain ⟨g, cap', e1, e2, e3, e4, _, _, e5, e6⟩ := owns_open hown (by omega)
      simp only [Value.slice.injEq] at e1
      obtain ⟨rfl, _, rfl⟩ := e1
      have hl1 := hown.1
      obtain ⟨u0, hu0⟩ : ∃ u, wr.cell? ⟨g, j * 4, none⟩ = some u := ⟨_, e5 _ _ (List.getElem?_eq_getElem (by omega))⟩
      obtain ⟨u1, hu1⟩ : ∃ u, wr.cell? ⟨g, j * 4 + 1, none⟩ = some u := ⟨_, e5 _ _ (List.getElem?_eq_getElem (by omega))⟩
      obtain ⟨u2, hu2⟩ : ∃ u, wr.cell? ⟨g, j * 4 + 2, none⟩ = some u := ⟨_, e5 _ _ (List.getElem?_eq_getElem (by omega))⟩
      obtain ⟨W, hW⟩ : ∃ W, ((wr.setCell ⟨g, j * 4, none⟩ (.int .i64 (K : Int))).setCell ⟨g, j * 4 + 1, none⟩ (.int .i64 ((K : Int) + 1))).setCell ⟨g, j * 4 + 2, none⟩ (.int .i64 ((K : Int) + 1 + 1)) = W := ⟨_, rfl⟩
      have HO2 := hide (owns_set (g := g) (owns_set (g := g) (owns_set (g := g) hown rfl (j * 4) (.int .i64 (K : Int))) rfl (j * 4 + 1) (.int .i64 ((K : Int) + 1))) rfl (j * 4 + 2) (.int .i64 ((K : Int) + 1 + 1)))
      have HP2 := hide (pre_set (j * 4 + 3) (pre_set (j * 4 + 2) (pre_set (j * 4 + 1) hy s0 (by omega) rfl) s1 (by simp; omega) rfl) s2 (by simp; omega) (by omega))
      have ht2 : Hid (w.grownBy (((wr.setCell ⟨g, j * 4, none⟩ (.int .i64 (K : Int))).setCell ⟨g, j * 4 + 1, none⟩ (.int .i64 ((K : Int) + 1))).setCell ⟨g, j * 4 + 2, none⟩ (.int .i64 ((K : Int) + 1 + 1))) (Value.slice (some ⟨g, 0, none⟩) n cap).ownBlock) := by
        show World.grownBy _ _ _
        refine gb_set ?_ _ _ (by rfl); refine gb_set ?_ _ _ (by rfl); refine gb_set ?_ _ _ (by rfl); exact ht
      have S3 := hide s3
      have HW := hide hW
      clear hy hown hK ht e5 e2 s0 s1 s2 s3 hW
      go_wp2_with fail
      have hW := HW.out
      rw [hW] at HO2 ht2
      rw [show ((K : Int) + 1 + 1 : Int) = (K : Int) + 2 by omega] at HO2
      first | rw [hW] | (rw [show ((K : Int) + 1 + 1 : Int) = (K : Int) + 2 by omega] at hW; rw [hW])
      clear hW HW hu0 hu1 hu2
      refine (markTx (K + 3) _ (by omega)).mono ?_; rintro x w3 ⟨rfl, hb3⟩
      have hown3 := owns_new HO2.out hb3
      obtain ⟨g', cap'', f1, f2, f3, f4, _, _, f5, f6⟩ := owns_open hown3 (by omega)
      simp only [Value.slice.injEq, Option.some.injEq, Addr.mk.injEq] at f1
      obtain ⟨⟨rfl, _, _⟩, _, rfl⟩ := f1
      have hl3 := hown3.1
      obtain ⟨u3, hu3⟩ : ∃ u, w3.cell? ⟨g, j * 4 + 3, none⟩ = some u := ⟨_, f5 _ _ (List.getElem?_eq_getElem (by omega))⟩
      have HO3 := hide (owns_set (g := g) hown3 rfl (j * 4 + 3) (.string (mtx (K + 3))))
      have HP3 := hide (pre_set ((j + 1) * 4) (a := .string (mtx (K + 3))) HP2.out S3.out (by rw [List.length_set, List.length_set, List.length_set] at hl3 ⊢; omega) (by omega))
      have ht3 := hide (gb_set (gb_trans ht2.out (gb_new hb3 _)) ⟨g, j * 4 + 3, none⟩ (.string (mtx (K + 3))) (by rfl))
      clear f5 f2 hown3
      go_wp2_with fail
      exact ⟨⟨j + 1, _, by go_num, int_eq (by have := HK.out; omega), by omega, HO3.out, HP3.out, ht3.out⟩, by simp [intOf]; omega⟩
    · obtain rfl : j = n := by omega
      have hys : ys = mkFr k j := pre_end hown.1 (mkFr_len _ _) hy
      subst hys
      go_wp2_with fail
      go_ret
      exact ⟨rfl, hown, ht⟩
set_option maxHeartbeats 1000000 in
theorem likeFrames1 (L : List Fr) (v v' : Value) (w : World) (hr0 : Reads w v L.length 4 (fr L)) (hr1 : Reads w v' L.length 4 (fr L)) :
    Calls Tryd.prog 13 #[v, v'] w fun x w' => x = .returned (.bool true) ∧ Below w.heap.size w w' := by
  obtain ⟨hl, ad, cap, rfl, h1, h2, h3⟩ := hr0
  obtain ⟨hl', ad', cap', rfl, h1', h2', h3'⟩ := hr1
  have H3 := hide h3
  have H3' := hide h3'
  clear h3 h3'
  unfold maxLen at h2 h2'
  go_enter Tryd.func13, Tryd.ntmps13
  go_wp2_with fail
  go_loopw [5] (fun i wr => ∃ (k : Nat), i = .int .i64 k ∧ k ≤ L.length ∧ Below w.heap.size w wr) (fun i _ => L.length - (intOf i).toNat)
  case atStart => exact ⟨0, rfl, Nat.zero_le _, Below.refl _ _⟩
  case round =>
    obtain ⟨k, rfl, hk, hb⟩ := hrel
    by_cases hlt : k < L.length
    · obtain ⟨b, o, rfl, hbw, hc⟩ := H3.out (by omega)
      obtain ⟨b', o', rfl, hbw', hc'⟩ := H3'.out (by omega)
      obtain ⟨s0, s1, s2, s3⟩ := fr_get L k hlt
      have c0 : wr.cell? ⟨b, o + k * 4, none⟩ = some (.int .i64 L[k].k) := by rw [hb.cell (p := ⟨b, o + k * 4, none⟩) hbw]; exact hc _ _ s0
      have c1 : wr.cell? ⟨b, o + k * 4 + 1, none⟩ = some (.int .i64 L[k].fl) := by rw [hb.cell (p := ⟨b, o + k * 4 + 1, none⟩) hbw]; exact hc _ _ s1
      have c2 : wr.cell? ⟨b, o + k * 4 + 2, none⟩ = some (.int .i64 L[k].st) := by rw [hb.cell (p := ⟨b, o + k * 4 + 2, none⟩) hbw]; exact hc _ _ s2
      have c3 : wr.cell? ⟨b, o + k * 4 + 3, none⟩ = some (.string L[k].b) := by rw [hb.cell (p := ⟨b, o + k * 4 + 3, none⟩) hbw]; exact hc _ _ s3
      have d0 : wr.cell? ⟨b', o' + k * 4, none⟩ = some (.int .i64 L[k].k) := by rw [hb.cell (p := ⟨b', o' + k * 4, none⟩) hbw']; exact hc' _ _ s0
      have d1 : wr.cell? ⟨b', o' + k * 4 + 1, none⟩ = some (.int .i64 L[k].fl) := by rw [hb.cell (p := ⟨b', o' + k * 4 + 1, none⟩) hbw']; exact hc' _ _ s1
      have d2 : wr.cell? ⟨b', o' + k * 4 + 2, none⟩ = some (.int .i64 L[k].st) := by rw [hb.cell (p := ⟨b', o' + k * 4 + 2, none⟩) hbw']; exact hc' _ _ s2
      have d3 : wr.cell? ⟨b', o' + k * 4 + 3, none⟩ = some (.string L[k].b) := by rw [hb.cell (p := ⟨b', o' + k * 4 + 3, none⟩) hbw']; exact hc' _ _ s3
      have hkI : (k : Int) < L.length := by omega
      have HB := hide hb
      clear hc hc' s0 s1 s2 s3 hb
      go_wp2_with fail
      go_quiet (fail)
      go_wp2_with fail
      go_roundw
      case rel => exact ⟨k + 1, by go_num, by omega, bo_drewN _ HB.out⟩
      case measure => simp [intOf]; omega
    · go_wp2_with fail
      go_ret
      exact ⟨rfl, hb⟩
end Go.Proofs.YtelcnojmfkoboaaDoor
