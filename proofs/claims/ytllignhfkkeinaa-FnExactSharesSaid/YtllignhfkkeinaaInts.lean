/- Rows of int64: copied, held against each other, marked, read again, counted. -/
import Derived.Test.YtllignhfkkeinaaHeapRows
import Derived.Test.YtllignhfkkeinaaMade
import Derived.WalkKit
import Derived.ProofKit
import Derived.OpenShut
import Derived.Lib.SmallJoins
import Derived.Handy

namespace Go.Proofs.Ytllignhfkkeinaa
open Go.RowKit
set_option maxRecDepth 100000
set_option linter.unusedSimpArgs false
set_option linter.unusedVariables false

def iv (L : List Int) : List Value := L.map (Value.int .i64)
theorem iv_len (L : List Int) : (iv L).length = L.length := by simp [iv]
theorem iv_get (L : List Int) (k : Nat) (h : k < L.length) : (iv L)[k]? = some (.int .i64 L[k]) := by simp [iv, h]

set_option maxHeartbeats 1000000 in
theorem toInts (L : List Int) (v : Value) (w : World) (hr0 : Reads w v L.length 1 (iv L)) (hL : L.length ≤ 1048576) :
    Calls Try.prog 14 #[v] w fun x w' => ∃ v', x = .returned v' ∧ w'.ownsRow w.heap.size 2 1 v' L.length (iv L) ∧ Below w.heap.size w w' := by
  obtain ⟨M, hM, hmk⟩ := make_row 24 2 (.int .i64 0) 1 8 Try.underlying24 (by kernel_rfl) rfl (by decide) (by decide) L.length hL
  obtain ⟨hl, ad, cap, rfl, h1, h2, h3⟩ := hr0
  have ho := owns_made w M 2 1 L.length hM hL
  have h3' : Hid (0 < L.length → ∃ b o, ad = some ⟨b, o, none⟩ ∧ b < w.heap.size ∧ ∀ j u, (iv L)[j]? = some u → w.cell? ⟨b, o + j, none⟩ = some u) := h3
  clear h3
  unfold maxLen at h2
  go_enter Try.func14, Try.ntmps14
  go_wp2_with fail
  go_loopw [4] (fun i wr => ∃ (k : Nat) (xs : List Value), i = .int .i64 k ∧ k ≤ L.length ∧ wr.ownsRow w.heap.size 2 1 (.slice (some ⟨w.heap.size, 0, none⟩) L.length L.length) L.length xs ∧ (∀ j, j < k → xs[j]? = (iv L)[j]?) ∧ Below w.heap.size w wr) (fun i _ => L.length - (intOf i).toNat)
  case atStart => exact ⟨0, _, rfl, Nat.zero_le _, ho, fun j hj => absurd hj (Nat.not_lt_zero _), (Below.refl _ _).alloc (Nat.le_refl _) _⟩
  case round =>
    obtain ⟨k, xs, rfl, hk, hown, hx, hb⟩ := hrel
    by_cases hlt : k < L.length
    · obtain ⟨b, o, rfl, hbw, hc⟩ := h3'.out (by omega)
      have hck : wr.cell? ⟨b, o + k, none⟩ = some (.int .i64 L[k]) := by rw [hb.cell (p := ⟨b, o + k, none⟩) hbw]; exact hc k _ (iv_get L k hlt)
      obtain ⟨g, cap', e1, e2, e3, e4, _, _, e5, e6⟩ := owns_open hown (by omega)
      have HO : Hid ((wr.setCell ⟨w.heap.size, k, none⟩ (.int .i64 L[k])).ownsRow w.heap.size 2 1 (.slice (some ⟨w.heap.size, 0, none⟩) L.length L.length) L.length (xs.set k (.int .i64 L[k]))) := owns_set hown rfl k _
      have HX : Hid (∀ j, j < k + 1 → (xs.set k (.int .i64 L[k]))[j]? = (iv L)[j]?) := by
        intro j hj
        rw [List.getElem?_set]
        split
        · rename_i h; subst h; rw [if_pos (by have := hown.1; omega), iv_get L k hlt]
        · exact hx j (by omega)
      simp only [Value.slice.injEq, Option.some.injEq, Addr.mk.injEq] at e1
      obtain ⟨⟨rfl, _, _⟩, _, rfl⟩ := e1
      have hf := e6 k
      obtain ⟨u0, hu0⟩ : ∃ u, wr.cell? ⟨w.heap.size, k, none⟩ = some u := ⟨_, e5 k _ (List.getElem?_eq_getElem (by have := hown.1; omega))⟩
      clear e5 e6 hx hown hc e2
      go_wp2_with fail
      go_roundw
      case rel => exact ⟨k + 1, _, by go_num, by omega, HO.out, HX.out, hb.setCell (by simp) _⟩
      case measure => simp [intOf]; omega
    · obtain rfl : k = L.length := by omega
      have hxs : xs = iv L := List.ext_getElem? fun j => by
        by_cases hj : j < L.length
        · exact hx j hj
        · rw [List.getElem?_eq_none (by have := hown.1; omega), List.getElem?_eq_none (by rw [iv_len]; omega)]
      subst hxs
      go_wp2_with fail
      go_ret
      exact ⟨_, rfl, hown, hb⟩

/-- n marks, from k on. -/
def mk (k : Int) (n : Nat) : List Value := (List.range n).map fun (j : Nat) => Value.int .i64 (k + j)
theorem mk_len (k : Int) (n : Nat) : (mk k n).length = n := by simp [mk]
theorem mk_get (k : Int) (n j : Nat) (h : j < n) : (mk k n)[j]? = some (.int .i64 (k + j)) := by simp [mk, h]

set_option maxHeartbeats 1000000 in
theorem eqInts (L : List Int) (v v' : Value) (w : World) (hr0 : Reads w v L.length 1 (iv L)) (hr1 : Reads w v' L.length 1 (iv L)) :
    Calls Try.prog 15 #[v, v'] w fun x w' => x = .returned (.bool true) ∧ Below w.heap.size w w' := by
  obtain ⟨hl, ad, cap, rfl, h1, h2, h3⟩ := hr0
  obtain ⟨hl', ad', cap', rfl, h1', h2', h3'⟩ := hr1
  have H3 := hide h3
  have H3' := hide h3'
  clear h3 h3'
  unfold maxLen at h2 h2'
  go_enter Try.func15, Try.ntmps15
  go_wp2_with fail
  go_loopw [5] (fun i wr => ∃ (k : Nat), i = .int .i64 k ∧ k ≤ L.length ∧ Below w.heap.size w wr) (fun i _ => L.length - (intOf i).toNat)
  case atStart => exact ⟨0, rfl, Nat.zero_le _, Below.refl _ _⟩
  case round =>
    obtain ⟨k, rfl, hk, hb⟩ := hrel
    by_cases hlt : k < L.length
    · obtain ⟨b, o, rfl, hbw, hc⟩ := H3.out (by omega)
      obtain ⟨b', o', rfl, hbw', hc'⟩ := H3'.out (by omega)
      have hck : wr.cell? ⟨b, o + k, none⟩ = some (.int .i64 L[k]) := by rw [hb.cell (p := ⟨b, o + k, none⟩) hbw]; exact hc k _ (iv_get L k hlt)
      have hck' : wr.cell? ⟨b', o' + k, none⟩ = some (.int .i64 L[k]) := by rw [hb.cell (p := ⟨b', o' + k, none⟩) hbw']; exact hc' k _ (iv_get L k hlt)
      clear hc hc'
      go_wp2_with fail
      go_quiet (fail)
      go_wp2_with fail
      go_roundw
      case rel => exact ⟨k + 1, by go_num, by omega, bo_drewN _ hb⟩
      case measure => simp [intOf]; omega
    · go_wp2_with fail
      go_ret
      exact ⟨rfl, hb⟩

set_option maxHeartbeats 1000000 in
theorem heldInts (n : Nat) (k : Int) (v : Value) (w : World) (hr0 : Reads w v n 1 (mk k n)) (hk0 : 0 ≤ k) (hk1 : k + n ≤ 1000000000) :
    Calls Try.prog 17 #[v, .int .i64 k] w fun x w' => x = .returned (.int .i64 (k + n)) ∧ w' = w := by
  obtain ⟨hl, ad, cap, rfl, h1, h2, h3⟩ := hr0
  have H3 := hide h3
  clear h3
  unfold maxLen at h2
  go_enter Try.func17, Try.ntmps17
  go_wp2_with fail
  go_loop [1, 5] (fun kk i => ∃ (j : Nat), i = .int .i64 j ∧ kk = .int .i64 (k + j) ∧ j ≤ n) (fun _ i => n - (intOf i).toNat)
  case atStart => exact ⟨0, rfl, by simp, Nat.zero_le _⟩
  case round =>
    obtain ⟨j, rfl, rfl, hj⟩ := hrel
    by_cases hlt : j < n
    · obtain ⟨b, o, rfl, hbw, hc⟩ := H3.out (by omega)
      have hck := hc j _ (mk_get k n j hlt)
      clear hc
      go_wp2_with fail
      go_round
      case rel => exact ⟨j + 1, by go_num, by go_num, by omega⟩
      case measure => simp [intOf]; omega
    · obtain rfl : j = n := by omega
      go_wp2_with fail
      go_ret
      exact ⟨rfl, rfl⟩

set_option maxHeartbeats 1000000 in
theorem markInts (n : Nat) (k : Int) (v : Value) (xs : List Value) (lo : Nat) (w : World) (ho : w.ownsRow lo 2 1 v n xs) (hk0 : 0 ≤ k) (hk1 : k + n ≤ 1000000000) :
    Calls Try.prog 16 #[v, .int .i64 k] w fun x w' => x = .returned (.int .i64 (k + n)) ∧ w'.ownsRow lo 2 1 v n (mk k n) ∧ w.grownBy w' v.ownBlock := by
  obtain ⟨ad, cap, rfl, h1, h2⟩ := owns_form ho
  unfold maxLen at h2
  have HO := hide ho
  clear ho
  go_enter Try.func16, Try.ntmps16
  go_wp2_with fail
  go_loopw [1, 5] (fun kk i wr => ∃ (j : Nat) (ys : List Value), i = .int .i64 j ∧ kk = .int .i64 (k + j) ∧ j ≤ n ∧ wr.ownsRow lo 2 1 (.slice ad n cap) n ys ∧ (∀ t, t < j → ys[t]? = (mk k n)[t]?) ∧ w.grownBy wr (Value.slice ad n cap).ownBlock) (fun _ i _ => n - (intOf i).toNat)
  case atStart => exact ⟨0, _, rfl, by simp, Nat.zero_le _, HO.out, fun t ht => absurd ht (Nat.not_lt_zero _), gb_refl _ _⟩
  case round =>
    obtain ⟨j, ys, rfl, rfl, hj, hown, hy, ht⟩ := hrel
    by_cases hlt : j < n
    · obtain ⟨g, cap', e1, e2, e3, e4, _, _, e5, e6⟩ := owns_open hown (by omega)
      simp only [Value.slice.injEq] at e1
      obtain ⟨rfl, _, rfl⟩ := e1
      have HO := hide (owns_set hown rfl j (.int .i64 (k + j)))
      have HX : Hid (∀ t, t < j + 1 → (ys.set j (.int .i64 (k + j)))[t]? = (mk k n)[t]?) := by
        intro t ht
        rw [List.getElem?_set]
        split
        · rename_i h; subst h; rw [if_pos (by have := hown.1; omega), mk_get k n j hlt]
        · exact hy t (by omega)
      have hf := e6 j
      obtain ⟨u0, hu0⟩ : ∃ u, wr.cell? ⟨g, j, none⟩ = some u := ⟨_, e5 j _ (List.getElem?_eq_getElem (by have := hown.1; omega))⟩
      clear e5 e6 hy hown e2
      go_wp2_with fail
      go_roundw
      case rel => exact ⟨j + 1, _, by go_num, by go_num, by omega, HO.out, HX.out, gb_set ht _ _ rfl⟩
      case measure => simp [intOf]; omega
    · obtain rfl : j = n := by omega
      have hys : ys = mk k j := List.ext_getElem? fun t => by
        by_cases ht' : t < j
        · exact hy t ht'
        · rw [List.getElem?_eq_none (by have := hown.1; omega), List.getElem?_eq_none (by rw [mk_len]; omega)]
      subst hys
      go_wp2_with fail
      go_ret
      exact ⟨rfl, hown, ht⟩
end Go.Proofs.Ytllignhfkkeinaa
