/- Rows of Fields: copied, held against each other, marked, read again, counted. -/
import Derived.Test.YtejmnkabmajebaaMade
import Derived.Test.YtejmnkabmajebaaMarkText
import Derived.Test.YtejmnkabmajebaaLater

namespace Go.Proofs.Ytejmnkabmajebaa
open Go.RowKit
set_option maxRecDepth 100000
set_option linter.unusedSimpArgs false
set_option linter.unusedVariables false

structure Fd where
  n : ByteArray
  v : ByteArray
def Fd.cs (f : Fd) : List Value := [.string f.n, .string f.v]
/-- Small enough to be a Go text. -/
def Fd.fine (f : Fd) : Prop := f.n.size ≤ 9223372036854775807 ∧ f.v.size ≤ 9223372036854775807
def fv (L : List Fd) : List Value := L.flatMap Fd.cs
theorem fcs_len (s : Fd) : s.cs.length = 2 := rfl
theorem fv_len (L : List Fd) : (fv L).length = L.length * 2 := flat_length Fd.cs 2 fcs_len L
theorem fv_get (L : List Fd) (k : Nat) (h : k < L.length) : (fv L)[k * 2]? = some (.string L[k].n) ∧ (fv L)[k * 2 + 1]? = some (.string L[k].v) :=
  ⟨flat_get Fd.cs 2 fcs_len L k h 0 (by decide), flat_get Fd.cs 2 fcs_len L k h 1 (by decide)⟩
theorem fv_one (L : List Fd) : ∀ u ∈ fv L, u.oneCell' = true := by
  intro u hu
  obtain ⟨f, _, hf⟩ := List.mem_flatMap.1 hu
  simp only [Fd.cs, List.mem_cons, List.not_mem_nil, or_false] at hf
  rcases hf with rfl | rfl <;> rfl
theorem fv_app (A B : List Fd) : fv (A ++ B) = fv A ++ fv B := by simp [fv]

theorem toField1 (s : Fd) (w : World) : Calls Try.prog 58 #[.agg #[.string s.n, .string s.v]] w fun x w' => x = .returned (.agg #[.string s.n, .string s.v]) ∧ Below w.heap.size w w' := by
  go_enter Try.func58, Try.ntmps58
  go_wp2
  go_returns
  exact ⟨rfl, (by repeat' (first | (with_reducible exact Below.refl _ _) | (with_reducible refine Below.drew ?_) | (with_reducible refine bo_drewN _ ?_) | (with_reducible refine bo_alloc ?_ _) | (refine bchain ?_ (by with_reducible assumption)) | (with_reducible refine Below.setCell ?_ ?_ _) | go_size))⟩

theorem eqField1 (s : Fd) (w : World) : Calls Try.prog 59 #[.agg #[.string s.n, .string s.v], .agg #[.string s.n, .string s.v]] w fun x w' => x = .returned (.bool true) ∧ Below w.heap.size w w' := by
  go_enter Try.func59, Try.ntmps59
  go_wp2
  go_ret
  exact ⟨rfl, (by repeat' (first | (with_reducible exact Below.refl _ _) | (with_reducible refine Below.drew ?_) | (with_reducible refine bo_drewN _ ?_) | (with_reducible refine bo_alloc ?_ _) | (refine bchain ?_ (by with_reducible assumption)) | (with_reducible refine Below.setCell ?_ ?_ _) | go_size))⟩

/-- How many bytes both have. -/
def szF (f : Fd) : Int := f.n.size + f.v.size
theorem szField1 (f : Fd) (left : Int) (w : World) (hf : f.fine) (h0 : 0 ≤ left) (h1 : left ≤ 1048576) :
    Calls Try.prog 57 #[.agg #[.string f.n, .string f.v], .int .i64 left] w fun x w' => x = .returned (.int .i64 (if left - szF f < 0 then -1 else left - szF f)) ∧ Below w.heap.size w w' := by
  obtain ⟨hn, hv⟩ := hf
  unfold szF
  by_cases hA : left - f.n.size < 0
  · have e : left - ((f.n.size : Int) + f.v.size) < 0 := by omega
    rw [if_pos e]
    go_enter Try.func57, Try.ntmps57
    go_wp2
    go_ret
    exact ⟨rfl, (by repeat' (first | (with_reducible exact Below.refl _ _) | (with_reducible refine Below.drew ?_) | (with_reducible refine bo_drewN _ ?_) | (with_reducible refine bo_alloc ?_ _) | (refine bchain ?_ (by with_reducible assumption)) | (with_reducible refine Below.setCell ?_ ?_ _) | go_size))⟩
  · by_cases hB : left - f.n.size - f.v.size < 0
    · have e : left - ((f.n.size : Int) + f.v.size) < 0 := by omega
      rw [if_pos e]
      go_enter Try.func57, Try.ntmps57
      go_wp2
      go_ret
      exact ⟨rfl, (by repeat' (first | (with_reducible exact Below.refl _ _) | (with_reducible refine Below.drew ?_) | (with_reducible refine bo_drewN _ ?_) | (with_reducible refine bo_alloc ?_ _) | (refine bchain ?_ (by with_reducible assumption)) | (with_reducible refine Below.setCell ?_ ?_ _) | go_size))⟩
    · have e : ¬ left - ((f.n.size : Int) + f.v.size) < 0 := by omega
      rw [if_neg e, show left - ((f.n.size : Int) + f.v.size) = left - f.n.size - f.v.size by omega]
      clear e
      go_enter Try.func57, Try.ntmps57
      go_wp2
      go_ret
      exact ⟨rfl, (by repeat' (first | (with_reducible exact Below.refl _ _) | (with_reducible refine Below.drew ?_) | (with_reducible refine bo_drewN _ ?_) | (with_reducible refine bo_alloc ?_ _) | (refine bchain ?_ (by with_reducible assumption)) | (with_reducible refine Below.setCell ?_ ?_ _) | go_size))⟩

/-- How many bytes the fields of a row have. -/
def szL : List Fd → Int
  | [] => 0
  | f :: L => szF f + szL L
theorem szF_pos (f : Fd) : 0 ≤ szF f := by unfold szF; omega
theorem szL_pos (L : List Fd) : 0 ≤ szL L := by
  induction L with
  | nil => simp [szL]
  | cons f L ih => have := szF_pos f; simp only [szL]; omega
theorem szL_app (A B : List Fd) : szL (A ++ B) = szL A + szL B := by
  induction A with
  | nil => simp [szL]
  | cons f A ih => simp only [List.cons_append, szL, ih]; omega
theorem szL_split (L : List Fd) (k : Nat) (h : k < L.length) : szL L = szL (L.take k) + szF L[k] + szL (L.drop (k + 1)) := by
  conv => lhs; rw [← List.take_append_drop k L, List.drop_eq_getElem_cons h, szL_app]
  simp only [szL]; omega
theorem szL_succ (L : List Fd) (k : Nat) (h : k < L.length) : szL (L.take (k + 1)) = szL (L.take k) + szF L[k] := by
  rw [List.take_succ_eq_append_getElem h, szL_app]; simp [szL]

set_option maxHeartbeats 1000000 in
theorem szFields (L : List Fd) (v : Value) (left : Int) (w : World) (hr0 : Reads w v L.length 2 (fv L)) (hf : ∀ f ∈ L, f.fine) (h0 : 0 ≤ left) (h1 : left ≤ 1048576) :
    Calls Try.prog 27 #[v, .int .i64 left] w fun x w' => x = .returned (.int .i64 (if left - L.length - szL L < 0 then -1 else left - L.length - szL L)) ∧ Below w.heap.size w w' := by
  obtain ⟨hl, ad, cap, rfl, h2, h3, h4⟩ := hr0
  unfold maxLen at h3
  have hp := szL_pos L
  have H3 := hide h4
  have HF := hide hf
  clear h4 hf
  obtain ⟨R, hR⟩ : ∃ R : Int, R = if left - L.length - szL L < 0 then -1 else left - L.length - szL L := ⟨_, rfl⟩
  rw [← hR]
  have HR := hide hR
  clear hR
  by_cases h : left - L.length < 0
  · have e := HR.out
    rw [if_pos (by omega)] at e
    subst e
    clear HR
    go_enter Try.func27, Try.ntmps27
    go_wp2_with fail
    go_ret
    exact ⟨rfl, (by repeat' (first | (with_reducible exact Below.refl _ _) | (with_reducible refine Below.drew ?_) | (with_reducible refine bo_drewN _ ?_) | (with_reducible refine bo_alloc ?_ _) | (refine bchain ?_ (by with_reducible assumption)) | (with_reducible refine Below.setCell ?_ ?_ _) | go_size))⟩
  · go_enter Try.func27, Try.ntmps27
    go_wp2_with fail
    go_loopw [1, 5] (fun lv i wr => ∃ (k : Nat), i = .int .i64 k ∧ k ≤ L.length ∧ lv = .int .i64 (left - L.length - szL (L.take k)) ∧ 0 ≤ left - L.length - szL (L.take k) ∧ Below w.heap.size w wr) (fun _ i _ => L.length - (intOf i).toNat)
    case atStart => exact ⟨0, rfl, Nat.zero_le _, by simp [szL], by simp [szL]; omega, Below.refl _ _⟩
    case round =>
      obtain ⟨k, rfl, hk, rfl, hpos, hb⟩ := hrel
      by_cases hlt : k < L.length
      · obtain ⟨b, o, rfl, hbw, hc⟩ := H3.out (by omega)
        obtain ⟨s0, s1⟩ := fv_get L k hlt
        have hsp := szL_split L k hlt
        have hsu := szL_succ L k hlt
        have hp2 := szL_pos (L.drop (k + 1))
        have hp3 := szL_pos (L.take k)
        have hfk := HF.out _ (List.getElem_mem hlt)
        obtain ⟨f, hff⟩ : ∃ f, f = L[k] := ⟨_, rfl⟩
        rw [← hff] at s0 s1 hsp hsu hfk
        have c0 : wr.cell? ⟨b, o + k * 2, none⟩ = some (.string f.n) := by rw [hb.cell (p := ⟨b, o + k * 2, none⟩) hbw]; exact hc _ _ s0
        have c1 : wr.cell? ⟨b, o + k * 2 + 1, none⟩ = some (.string f.v) := by rw [hb.cell (p := ⟨b, o + k * 2 + 1, none⟩) hbw]; exact hc _ _ s1
        clear hc s0 s1 hff
        have HS := hide hsp; have HU := hide hsu
        have hpf := szF_pos f
        generalize hA : szL (L.take k) = A at *
        clear hsp hsu hA
        by_cases hneg : left - L.length - A - szF f < 0
        · have e := HR.out
          rw [if_pos (by have := HS.out; omega)] at e
          subst e
          clear HR
          go_wp2_with fail
          refine (szField1 f _ _ hfk (by omega) (by omega)).mono ?_; rw [if_pos (by omega)]; rintro x w1 ⟨rfl, hb1⟩
          go_wp2_with fail
          go_ret
          exact ⟨rfl, bchain hb hb1⟩
        · go_wp2_with fail
          refine (szField1 f _ _ hfk (by omega) (by omega)).mono ?_; rw [if_neg (by omega)]; rintro x w1 ⟨rfl, hb1⟩
          go_wp2_with fail
          exact ⟨⟨k + 1, by go_num, by omega, int_eq (by have := HU.out; omega), by have := HU.out; omega, bchain hb hb1⟩, by simp [intOf]; omega⟩
      · obtain rfl : k = L.length := by omega
        rw [List.take_length] at hpos ⊢
        have e := HR.out
        rw [if_neg (by omega)] at e
        subst e
        clear HR
        go_wp2_with fail
        go_ret
        exact ⟨rfl, hb⟩

set_option maxHeartbeats 1000000 in
theorem toFields (L : List Fd) (v : Value) (w : World) (hr0 : Reads w v L.length 2 (fv L)) (hL : L.length ≤ 1048576) :
    Calls Try.prog 29 #[v] w fun x w' => ∃ v', x = .returned v' ∧ w'.ownsRow w.heap.size 46 2 v' L.length (fv L) ∧ Below w.heap.size w w' := by
  obtain ⟨M, hM, hmk⟩ := make_row 24 46 (.agg #[.string ⟨#[]⟩, .string ⟨#[]⟩]) 2 32 Try.underlying24 (by kernel_rfl) rfl (by decide) (by decide) L.length hL
  obtain ⟨hl, ad, cap, rfl, h1, h2, h3⟩ := hr0
  have ho := owns_made w M 46 2 L.length hM hL
  have H3 := hide h3
  clear h3
  unfold maxLen at h2
  go_enter Try.func29, Try.ntmps29
  go_wp2_with fail
  go_loopw [4] (fun i wr => ∃ (k : Nat) (xs : List Value), i = .int .i64 k ∧ k ≤ L.length ∧ wr.ownsRow w.heap.size 46 2 (.slice (some ⟨w.heap.size, 0, none⟩) L.length L.length) L.length xs ∧ (∀ j, j < k * 2 → xs[j]? = (fv L)[j]?) ∧ Below w.heap.size w wr) (fun i _ => L.length - (intOf i).toNat)
  case atStart => exact ⟨0, _, rfl, Nat.zero_le _, ho, fun j hj => absurd hj (by omega), (Below.refl _ _).alloc (Nat.le_refl _) _⟩
  case round =>
    obtain ⟨k, xs, rfl, hk, hown, hx, hb⟩ := hrel
    by_cases hlt : k < L.length
    · obtain ⟨b, o, rfl, hbw, hc⟩ := H3.out (by omega)
      obtain ⟨s0, s1⟩ := fv_get L k hlt
      have c0 : wr.cell? ⟨b, o + k * 2, none⟩ = some (.string L[k].n) := by rw [hb.cell (p := ⟨b, o + k * 2, none⟩) hbw]; exact hc _ _ s0
      have c1 : wr.cell? ⟨b, o + k * 2 + 1, none⟩ = some (.string L[k].v) := by rw [hb.cell (p := ⟨b, o + k * 2 + 1, none⟩) hbw]; exact hc _ _ s1
      have HX := hide hx
      have S0 := hide s0; have S1 := hide s1; clear s0 s1
      have HOwn := hide hown
      clear hx hown hc
      go_wp2_with fail
      refine (toField1 L[k] _).mono ?_; rintro x w1 ⟨rfl, hb1⟩
      have hown1 := owns_new HOwn.out hb1
      have hbb := bchain hb hb1
      obtain ⟨g, cap', e1, e2, e3, e4, _, _, e5, e6⟩ := owns_open hown1 (by omega)
      simp only [Value.slice.injEq, Option.some.injEq, Addr.mk.injEq] at e1
      obtain ⟨⟨rfl, _, _⟩, _, rfl⟩ := e1
      have hl1 := hown1.1
      obtain ⟨u0, hu0⟩ : ∃ u, w1.cell? ⟨w.heap.size, k * 2, none⟩ = some u := ⟨_, e5 _ _ (List.getElem?_eq_getElem (by omega))⟩
      obtain ⟨u1, hu1⟩ : ∃ u, w1.cell? ⟨w.heap.size, k * 2 + 1, none⟩ = some u := ⟨_, e5 _ _ (List.getElem?_eq_getElem (by omega))⟩
      have HO := hide (owns_set (owns_set hown1 rfl (k * 2) (.string L[k].n)) rfl (k * 2 + 1) (.string L[k].v))
      have HP := hide (pre_set ((k + 1) * 2) (pre_set (k * 2 + 1) HX.out S0.out (by omega) rfl) S1.out (by simp; omega) (by omega))
      clear e5 e2 hown1
      go_wp2_with fail
      exact ⟨⟨k + 1, _, by go_num, by omega, HO.out, HP.out, (hbb.setCell (by simp) _).setCell (by simp) _⟩, by simp [intOf]; omega⟩
    · obtain rfl : k = L.length := by omega
      have hxs : xs = fv L := pre_end hown.1 (fv_len L) hx
      subst hxs
      go_wp2_with fail
      go_ret
      exact ⟨_, rfl, hown, hb⟩

set_option maxHeartbeats 1000000 in
theorem eqFields (L : List Fd) (v v' : Value) (w : World) (hr0 : Reads w v L.length 2 (fv L)) (hr1 : Reads w v' L.length 2 (fv L)) :
    Calls Try.prog 31 #[v, v'] w fun x w' => x = .returned (.bool true) ∧ Below w.heap.size w w' := by
  obtain ⟨hl, ad, cap, rfl, h1, h2, h3⟩ := hr0
  obtain ⟨hl', ad', cap', rfl, h1', h2', h3'⟩ := hr1
  have H3 := hide h3
  have H3' := hide h3'
  clear h3 h3'
  unfold maxLen at h2 h2'
  go_enter Try.func31, Try.ntmps31
  go_wp2_with fail
  go_loopw [5] (fun i wr => ∃ (k : Nat), i = .int .i64 k ∧ k ≤ L.length ∧ Below w.heap.size w wr) (fun i _ => L.length - (intOf i).toNat)
  case atStart => exact ⟨0, rfl, Nat.zero_le _, Below.refl _ _⟩
  case round =>
    obtain ⟨k, rfl, hk, hb⟩ := hrel
    by_cases hlt : k < L.length
    · obtain ⟨b, o, rfl, hbw, hc⟩ := H3.out (by omega)
      obtain ⟨b', o', rfl, hbw', hc'⟩ := H3'.out (by omega)
      obtain ⟨s0, s1⟩ := fv_get L k hlt
      have c0 : wr.cell? ⟨b, o + k * 2, none⟩ = some (.string L[k].n) := by rw [hb.cell (p := ⟨b, o + k * 2, none⟩) hbw]; exact hc _ _ s0
      have c1 : wr.cell? ⟨b, o + k * 2 + 1, none⟩ = some (.string L[k].v) := by rw [hb.cell (p := ⟨b, o + k * 2 + 1, none⟩) hbw]; exact hc _ _ s1
      have d0 : wr.cell? ⟨b', o' + k * 2, none⟩ = some (.string L[k].n) := by rw [hb.cell (p := ⟨b', o' + k * 2, none⟩) hbw']; exact hc' _ _ s0
      have d1 : wr.cell? ⟨b', o' + k * 2 + 1, none⟩ = some (.string L[k].v) := by rw [hb.cell (p := ⟨b', o' + k * 2 + 1, none⟩) hbw']; exact hc' _ _ s1
      have hsb := hb.size
      have hb1 : b < wr.heap.size := by omega
      have hb2 : b' < wr.heap.size := by omega
      clear hc hc' s0 s1
      go_wp2_with fail
      have q0 : ∀ y : Later wr, y.w.cell? ⟨b, o + k * 2, none⟩ = some (.string L[k].n) := fun y => (y.b.cell (p := ⟨b, o + k * 2, none⟩) hb1).trans c0
      have q1 : ∀ y : Later wr, y.w.cell? ⟨b, o + k * 2 + 1, none⟩ = some (.string L[k].v) := fun y => (y.b.cell (p := ⟨b, o + k * 2 + 1, none⟩) hb1).trans c1
      have r0 : ∀ y : Later wr, y.w.cell? ⟨b', o' + k * 2, none⟩ = some (.string L[k].n) := fun y => (y.b.cell (p := ⟨b', o' + k * 2, none⟩) hb2).trans d0
      have r1 : ∀ y : Later wr, y.w.cell? ⟨b', o' + k * 2 + 1, none⟩ = some (.string L[k].v) := fun y => (y.b.cell (p := ⟨b', o' + k * 2 + 1, none⟩) hb2).trans d1
      clear c0 c1 d0 d1
      have hne : Nonempty (Later wr) := ⟨⟨wr, Below.refl _ _⟩⟩; refine region_later (by kernel_rfl) (by kernel_rfl) ?_
      repeat (go_big_quiet_step (fail))
      go_big_quiet_want; go_big_quiet_op; refine ⟨.bool true, fun y => later_calls (x := y) (eqField1 L[k] y.w), ?_⟩; go_big_quiet_on
      repeat (go_big_quiet_step (fail))
      refine wpQuiet_nil ?_; intro _ hw'; obtain ⟨y, hw''⟩ := hw'; subst hw''; have hby := y.b
      go_wp2_with fail
      go_roundw
      case rel => exact ⟨k + 1, by go_num, by omega, bchain hb hby⟩
      case measure => simp [intOf]; omega
    · go_wp2_with fail
      go_ret
      exact ⟨rfl, hb⟩

/-- The marks of a row of n texts, from k on. -/
def mkT (k n : Nat) : List Value := (List.range n).map fun j => .string (mtx (k + j))
theorem mkT_len (k n : Nat) : (mkT k n).length = n := by simp [mkT]
theorem mkT_get (k n j : Nat) (h : j < n) : (mkT k n)[j]? = some (.string (mtx (k + j))) := by simp [mkT, h]

set_option maxHeartbeats 1000000 in
theorem heldFields (n k : Nat) (v : Value) (w : World) (hr0 : Reads w v n 2 (mkT k (n * 2))) (hk1 : k + n * 2 ≤ 1000000000) :
    Calls Try.prog 35 #[v, .int .i64 k] w fun x w' => x = .returned (.int .i64 ((k + n * 2 : Nat) : Int)) ∧ Below w.heap.size w w' := by
  obtain ⟨hl, ad, cap, rfl, h1, h2, h3⟩ := hr0
  have H3 := hide h3
  clear h3
  unfold maxLen at h2
  go_enter Try.func35, Try.ntmps35
  go_wp2_with fail
  go_loopw [1, 5] (fun kk i wr => ∃ (j : Nat), i = .int .i64 j ∧ kk = .int .i64 ((k + j * 2 : Nat) : Int) ∧ j ≤ n ∧ Below w.heap.size w wr) (fun _ i _ => n - (intOf i).toNat)
  case atStart => exact ⟨0, rfl, by simp, Nat.zero_le _, Below.refl _ _⟩
  case round =>
    obtain ⟨j, rfl, rfl, hj, hb⟩ := hrel
    by_cases hlt : j < n
    · obtain ⟨b, o, rfl, hbw, hc⟩ := H3.out (by omega)
      obtain ⟨K, hK⟩ : ∃ K : Nat, K = k + j * 2 := ⟨_, rfl⟩
      have hK1 : k + (j * 2 + 1) = K + 1 := by omega
      have c0 : wr.cell? ⟨b, o + j * 2, none⟩ = some (.string (mtx K)) := by rw [hb.cell (p := ⟨b, o + j * 2, none⟩) hbw, hK]; exact hc _ _ (mkT_get k (n * 2) (j * 2) (by omega))
      have c1 : wr.cell? ⟨b, o + j * 2 + 1, none⟩ = some (.string (mtx (K + 1))) := by rw [hb.cell (p := ⟨b, o + j * 2 + 1, none⟩) hbw, ← hK1]; exact hc _ _ (mkT_get k (n * 2) (j * 2 + 1) (by omega))
      have hsb := hb.size
      have hb1 : b < wr.heap.size := by omega
      clear hc hK1
      have hkb : K + 1 ≤ 1000000000 := by omega
      rw [← hK]
      have HK := hide hK
      clear hK
      go_wp2_with fail
      have q0 : ∀ y : Later wr, y.w.cell? ⟨b, o + j * 2, none⟩ = some (.string (mtx K)) := fun y => (y.b.cell (p := ⟨b, o + j * 2, none⟩) hb1).trans c0
      have hne : Nonempty (Later wr) := ⟨⟨wr, Below.refl _ _⟩⟩; refine region_later (by kernel_rfl) (by kernel_rfl) ?_
      repeat (go_big_quiet_step (fail))
      go_big_quiet_want; go_big_quiet_op; refine ⟨.string (mtx K), fun y => later_calls (x := y) ((fun u => markTx K u (by omega)) y.w), ?_⟩; go_big_quiet_on
      repeat (go_big_quiet_step (fail))
      refine wpQuiet_nil ?_; intro _ hw'; obtain ⟨y, hw''⟩ := hw'; subst hw''; have hby := y.b
      clear q0 hne
      have c1' := (hby.cell (p := ⟨b, o + j * 2 + 1, none⟩) hb1).trans c1
      have hb1' : b < y.w.heap.size := Nat.lt_of_lt_of_le hb1 hby.size
      obtain ⟨wy, hwy⟩ : ∃ wy, wy = y.w := ⟨_, rfl⟩
      rw [← hwy] at hby c1' hb1' ⊢
      clear c0 c1 hwy y
      have hbb := bchain hb hby
      go_wp2_with fail
      have q1 : ∀ y : Later wy, y.w.cell? ⟨b, o + j * 2 + 1, none⟩ = some (.string (mtx (K + 1))) := fun y => (y.b.cell (p := ⟨b, o + j * 2 + 1, none⟩) hb1').trans c1'
      have hne : Nonempty (Later wy) := ⟨⟨wy, Below.refl _ _⟩⟩; refine region_later (by kernel_rfl) (by kernel_rfl) ?_
      repeat (go_big_quiet_step (fail))
      go_big_quiet_want; go_big_quiet_op; refine ⟨.string (mtx (K + 1)), fun y => later_calls (x := y) ((fun u => markTx (K + 1) u (by omega)) y.w), ?_⟩; go_big_quiet_on
      repeat (go_big_quiet_step (fail))
      refine wpQuiet_nil ?_; intro _ hw'; obtain ⟨y2, hw''⟩ := hw'; subst hw''; have hby2 := y2.b
      go_wp2_with fail
      go_roundw
      case rel => exact ⟨j + 1, by go_num, int_eq (by have := HK.out; omega), by omega, bchain hbb hby2⟩
      case measure => simp [intOf]; omega
    · obtain rfl : j = n := by omega
      go_wp2_with fail
      go_ret
      exact ⟨rfl, hb⟩

set_option maxHeartbeats 1000000 in
theorem markFields (n k : Nat) (v : Value) (xs : List Value) (lo : Nat) (w : World) (ho : w.ownsRow lo 46 2 v n xs) (hk1 : k + n * 2 ≤ 1000000000) :
    Calls Try.prog 33 #[v, .int .i64 k] w fun x w' => x = .returned (.int .i64 ((k + n * 2 : Nat) : Int)) ∧ w'.ownsRow lo 46 2 v n (mkT k (n * 2)) ∧ w.grownBy w' v.ownBlock := by
  obtain ⟨ad, cap, rfl, h1, h2⟩ := owns_form ho
  unfold maxLen at h2
  have HO := hide ho
  clear ho
  go_enter Try.func33, Try.ntmps33
  go_wp2_with fail
  go_loopw [1, 5] (fun kk i wr => ∃ (j : Nat) (ys : List Value), i = .int .i64 j ∧ kk = .int .i64 ((k + j * 2 : Nat) : Int) ∧ j ≤ n ∧ wr.ownsRow lo 46 2 (.slice ad n cap) n ys ∧ (∀ t, t < j * 2 → ys[t]? = (mkT k (n * 2))[t]?) ∧ w.grownBy wr (Value.slice ad n cap).ownBlock) (fun _ i _ => n - (intOf i).toNat)
  case atStart => exact ⟨0, _, rfl, by simp, Nat.zero_le _, HO.out, fun t ht => absurd ht (by omega), gb_refl _ _⟩
  case round =>
    obtain ⟨j, ys, rfl, rfl, hj, hown, hy, ht⟩ := hrel
    by_cases hlt : j < n
    · obtain ⟨K, hK⟩ : ∃ K : Nat, K = k + j * 2 := ⟨_, rfl⟩
      have hkb : K + 1 ≤ 1000000000 := by omega
      rw [← hK]
      have HK := hide hK
      have HT := hide ht
      have HY := hide hy
      have HOwn := hide hown
      clear hy hown hK ht
      go_wp2_with fail
      refine (markTx K _ (by omega)).mono ?_; rintro x w1 ⟨rfl, hb1⟩
      have hown1 := owns_new HOwn.out hb1
      obtain ⟨g, cap', e1, e2, e3, e4, _, _, e5, e6⟩ := owns_open hown1 (by omega)
      simp only [Value.slice.injEq] at e1
      obtain ⟨rfl, _, rfl⟩ := e1
      have hl1 := hown1.1
      obtain ⟨u0, hu0⟩ : ∃ u, w1.cell? ⟨g, j * 2, none⟩ = some u := ⟨_, e5 _ _ (List.getElem?_eq_getElem (by omega))⟩
      have HO1 := hide (owns_set (g := g) hown1 rfl (j * 2) (.string (mtx K)))
      have HP1 := hide (pre_set (j * 2 + 1) (a := .string (mtx K)) HY.out (by rw [mkT_get k (n * 2) (j * 2) (by omega), HK.out]) (by omega) rfl)
      have ht1 := hide (gb_set (gb_trans HT.out (gb_new hb1 _)) ⟨g, j * 2, none⟩ (.string (mtx K)) (by rfl))
      clear e5 e2 hown1
      go_wp2_with fail
      generalize w1.setCell ⟨g, j * 2, none⟩ (.string (mtx K)) = w2 at *
      refine (markTx (K + 1) _ (by omega)).mono ?_; rintro x w3 ⟨rfl, hb3⟩
      have hown3 := owns_new HO1.out hb3
      obtain ⟨g', cap'', f1, f2, f3, f4, _, _, f5, f6⟩ := owns_open hown3 (by omega)
      simp only [Value.slice.injEq, Option.some.injEq, Addr.mk.injEq] at f1
      obtain ⟨⟨rfl, _, _⟩, _, rfl⟩ := f1
      have hl3 := hown3.1
      obtain ⟨u1, hu1⟩ : ∃ u, w3.cell? ⟨g, j * 2 + 1, none⟩ = some u := ⟨_, f5 _ _ (List.getElem?_eq_getElem (by omega))⟩
      have HO3 := hide (owns_set (g := g) hown3 rfl (j * 2 + 1) (.string (mtx (K + 1))))
      have HP3 := hide (pre_set ((j + 1) * 2) (a := .string (mtx (K + 1))) HP1.out (by rw [mkT_get k (n * 2) (j * 2 + 1) (by omega), HK.out]; rfl) (by rw [List.length_set] at hl3 ⊢; omega) (by omega))
      have ht3 := hide (gb_set (gb_trans ht1.out (gb_new hb3 _)) ⟨g, j * 2 + 1, none⟩ (.string (mtx (K + 1))) (by rfl))
      clear f5 f2 hown3
      go_wp2_with fail
      exact ⟨⟨j + 1, _, by go_num, int_eq (by have := HK.out; omega), by omega, HO3.out, HP3.out, ht3.out⟩, by simp [intOf]; omega⟩
    · obtain rfl : j = n := by omega
      have hys : ys = mkT k (j * 2) := pre_end hown.1 (mkT_len _ _) hy
      subst hys
      go_wp2_with fail
      go_ret
      exact ⟨rfl, hown, ht⟩
end Go.Proofs.Ytejmnkabmajebaa
