/- Several small texts of one level, one behind the other. -/
import Derived.Test.YtfemmnhfllbgjaaGreatDoorQG9
import Derived.Test.YtfemmnhfllbgjaaGreatDoorQG3
import Derived.Deep.QuietTactic
import Derived.BigQuiet
import Derived.Test.YtfemmnhfllbgjaaGreatDoorQG5
import Derived.Test.YtfemmnhfllbgjaaGreatDoorQG6
import Derived.Test.YtfemmnhfllbgjaaGreatDoorQG8
import Derived.Test.YtfemmnhfllbgjaaGreatDoorQG2
/- Chapter 15's model: when a list of tenants is right. -/
namespace Go.Proofs.YtfemmnhfllbgjaaGreatDoor
open Go.RowKit
set_option maxRecDepth 100000
set_option linter.unusedSimpArgs false
set_option linter.unusedVariables false
theorem specInB (x lo hi : Int) (w : World) : Calls Tryz.prog 46 #[.int .i64 x, .int .i64 lo, .int .i64 hi] w fun e w' => e = .returned (.bool (inB x lo hi)) ∧ Below w.heap.size w w' := (specIn x lo hi w).mono fun e w' ⟨h1, h2⟩ => ⟨h1, by subst h2; exact Below.refl _ _⟩
theorem tn_not {x : TenantD} {P : Prop} (h1 : okTn x = true → P) (h2 : ¬ P) : okTn x = false := by
  cases e : okTn x
  · rfl
  · exact absurd (h1 e) h2
set_option maxRecDepth 100000 in
set_option maxHeartbeats 4000000 in
theorem specTenantsOk (L : List TenantD) (v : Value) (w : World) (hr : RdR tenantS w v L) : Calls Tryz.prog 16 #[v] w fun x w' => x = .returned (.bool (okTs L)) ∧ Below w.heap.size w w' := by
  obtain ⟨ad, cap, rfl, h1, h2⟩ := hr.form
  obtain ⟨A, hA⟩ : ∃ A, okTs L = A := ⟨_, rfl⟩
  rw [hA]
  have HA := hide hA
  have HR := hide hr
  clear hA hr
  by_cases h8 : (8 : Int) < L.length
  · have HF : Hid (A = false) := by show A = false; rw [← HA.out]; exact ts_false fun c => by omega
    go_enter Tryz.func16, Tryz.ntmps16
    go_wp2_with fail
    go_ret
    exact ⟨by rw [HF.out]; rfl, Below.refl _ _⟩
  go_enter Tryz.func16, Tryz.ntmps16
  go_wp2_with fail
  go_loopw [3, 4, 5] (fun i _ _ wr => ∃ k : Nat, i = .int .i64 (k : Int) ∧ k ≤ L.length ∧ Hid (∀ j, j < k → okTn (tn L j) = true ∧ (j = 0 ∨ leS (tn L j).nm (tn L (j - 1)).nm = false)) ∧ Hid (Below w.heap.size w wr)) (fun i _ _ _ => L.length - (intOf i).toNat)
  case atStart => exact ⟨0, rfl, Nat.zero_le _, fun j h => absurd h (Nat.not_lt_zero _), hide (Below.refl _ _)⟩
  case round =>
    obtain ⟨k, rfl, hk, HC, HB⟩ := hrel
    by_cases hlt : k < L.length
    rotate_left
    · have hltI : ¬ (k : Int) < L.length := by omega
      have HT : Hid (A = true) := by show A = true; rw [← HA.out]; exact okTs_iff.2 ⟨by omega, fun i hi => HC.out i (by omega)⟩
      go_wp2_with fail
      go_ret
      exact ⟨by rw [HT.out]; rfl, HB.out⟩
    have hltI : (k : Int) < L.length := by omega
    obtain ⟨b, o, cs, rfl, hbw, hrd, hc⟩ := (HR.out.new HB.out).at k hlt
    have HE : Hid (tn L k = L[k]) := tn_get hlt
    obtain ⟨x, hx⟩ : ∃ x, L[k] = x := ⟨_, rfl⟩
    rw [hx] at hrd HE
    clear hx
    obtain ⟨vl, rfl, f0, f1, hls⟩ := hrd
    obtain ⟨al, pl, rfl, q1, q2⟩ := hls.form
    have c0 : wr.cell? ⟨b, o + k * 4, none⟩ = some (.string x.nm) := hc 0 _ rfl
    have c1 : wr.cell? ⟨b, o + k * 4 + 1, none⟩ = some (.string x.key) := hc 1 _ rfl
    have c2 : wr.cell? ⟨b, o + k * 4 + 2, none⟩ = some (.slice al x.list.length pl) := hc 2 _ rfl
    have c3 : wr.cell? ⟨b, o + k * 4 + 3, none⟩ = some (.int .i64 x.quota) := hc 3 _ rfl
    have hX : Below wr.heap.size wr (wr.alloc (.cells #[.string x.nm, .string x.key, .slice al x.list.length pl, .int .i64 x.quota] 32)) := (Below.refl _ _).alloc (Nat.le_refl _) _
    have RX := rowIs_new wr 32 [.string x.nm, .string x.key, .slice al x.list.length pl, .int .i64 x.quota]
    have HLS := hide (hls.new hX)
    have HBX := hide (bchain HB.out hX)
    have HRX := hide ((HR.out.new HB.out).new hX)
    go_upto_region 7 with fail
    clear hc hls c0 c1 c2 c3 hbw HB
    generalize hge : wr.heap.size = ge at *
    clear hge
    generalize wr.alloc (.cells #[.string x.nm, .string x.key, .slice al x.list.length pl, .int .i64 x.quota] 32) = X at *
    have x0 := RX.cell (j := 0) rfl
    have x1 := RX.cell (j := 1) rfl
    have x2 := RX.cell (j := 2) rfl
    have x3 := RX.cell (j := 3) rfl
    have xl := RX.lt
    have HRX2 := hide RX
    have qe0 : ∀ y : Later X, y.w.cell? ⟨ge, 0, none⟩ = some (.string x.nm) := fun y => (y.b.cell (p := ⟨ge, 0, none⟩) xl).trans x0
    have qe1 : ∀ y : Later X, y.w.cell? ⟨ge, 1, none⟩ = some (.string x.key) := fun y => (y.b.cell (p := ⟨ge, 1, none⟩) xl).trans x1
    have qe2 : ∀ y : Later X, y.w.cell? ⟨ge, 2, none⟩ = some (.slice al x.list.length pl) := fun y => (y.b.cell (p := ⟨ge, 2, none⟩) xl).trans x2
    have qe3 : ∀ y : Later X, y.w.cell? ⟨ge, 3, none⟩ = some (.int .i64 x.quota) := fun y => (y.b.cell (p := ⟨ge, 3, none⟩) xl).trans x3
    clear x0 x1 x2 x3 RX hX
    have hN := fun w => specName x.nm w (by unfold maxLen; omega)
    have hK := fun w => specInB (x.key.size : Int) 1 40 w
    have hQ := fun w => specInB x.quota 0 20 w
    have HNO : Hid (okTn x = false → A = false) := fun h => by rw [← HA.out]; exact ts_false fun c => by have := (c.2 k hlt).1; rw [HE.out, h] at this; cases this
    cases hi : nameB x.nm
    · rw [hi] at hN
      have HF : Hid (A = false) := HNO.out (tn_not (fun h => (okTn_iff.1 h).1) (by rw [hi]; decide))
      have hne : Nonempty (Later X) := ⟨⟨X, Below.refl _ _⟩⟩; refine region_later (by kernel_rfl) (by kernel_rfl) ?_; repeat (go_big_quiet_step (fail))
      go_big_quiet_want; go_big_quiet_op; refine ⟨.bool false, fun y => later_calls (x := y) (hN y.w), ?_⟩; go_big_quiet_on; repeat (go_big_quiet_step (fail))
      refine wpQuiet_nil ?_; intro _ hw'; obtain ⟨y, hw''⟩ := hw'; subst hw''; have hby := y.b
      go_wp2_with fail
      go_ret
      exact ⟨by rw [HF.out]; rfl, bchain HBX.out hby⟩
    rw [hi] at hN
    cases hk1 : inB (x.key.size : Int) 1 40
    · rw [hk1] at hK
      have HF : Hid (A = false) := HNO.out (tn_not (fun h => (okTn_iff.1 h).2.1) (by rw [hk1]; decide))
      have hne : Nonempty (Later X) := ⟨⟨X, Below.refl _ _⟩⟩; refine region_later (by kernel_rfl) (by kernel_rfl) ?_; repeat (go_big_quiet_step (fail))
      go_big_quiet_want; go_big_quiet_op; refine ⟨.bool true, fun y => later_calls (x := y) (hN y.w), ?_⟩; go_big_quiet_on; repeat (go_big_quiet_step (fail))
      go_big_quiet_want; go_big_quiet_op; refine ⟨.bool false, fun y => later_calls (x := y) (hK y.w), ?_⟩; go_big_quiet_on; repeat (go_big_quiet_step (fail))
      refine wpQuiet_nil ?_; intro _ hw'; obtain ⟨y, hw''⟩ := hw'; subst hw''; have hby := y.b
      go_wp2_with fail
      go_ret
      exact ⟨by rw [HF.out]; rfl, bchain HBX.out hby⟩
    rw [hk1] at hK
    by_cases hl20 : (20 : Int) < x.list.length
    · have HF : Hid (A = false) := HNO.out (tn_not (fun h => (okTn_iff.1 h).2.2.1) (by omega))
      have hne : Nonempty (Later X) := ⟨⟨X, Below.refl _ _⟩⟩; refine region_later (by kernel_rfl) (by kernel_rfl) ?_; repeat (go_big_quiet_step (fail))
      go_big_quiet_want; go_big_quiet_op; refine ⟨.bool true, fun y => later_calls (x := y) (hN y.w), ?_⟩; go_big_quiet_on; repeat (go_big_quiet_step (fail))
      go_big_quiet_want; go_big_quiet_op; refine ⟨.bool true, fun y => later_calls (x := y) (hK y.w), ?_⟩; go_big_quiet_on; repeat (go_big_quiet_step (fail))
      refine wpQuiet_nil ?_; intro _ hw'; obtain ⟨y, hw''⟩ := hw'; subst hw''; have hby := y.b
      go_wp2_with fail
      go_ret
      exact ⟨by rw [HF.out]; rfl, bchain HBX.out hby⟩
    cases hq1 : inB x.quota 0 20
    · rw [hq1] at hQ
      have HF : Hid (A = false) := HNO.out (tn_not (fun h => (okTn_iff.1 h).2.2.2.1) (by rw [hq1]; decide))
      have hne : Nonempty (Later X) := ⟨⟨X, Below.refl _ _⟩⟩; refine region_later (by kernel_rfl) (by kernel_rfl) ?_; repeat (go_big_quiet_step (fail))
      go_big_quiet_want; go_big_quiet_op; refine ⟨.bool true, fun y => later_calls (x := y) (hN y.w), ?_⟩; go_big_quiet_on; repeat (go_big_quiet_step (fail))
      go_big_quiet_want; go_big_quiet_op; refine ⟨.bool true, fun y => later_calls (x := y) (hK y.w), ?_⟩; go_big_quiet_on; repeat (go_big_quiet_step (fail))
      go_big_quiet_want; go_big_quiet_op; refine ⟨.bool false, fun y => later_calls (x := y) (hQ y.w), ?_⟩; go_big_quiet_on; repeat (go_big_quiet_step (fail))
      refine wpQuiet_nil ?_; intro _ hw'; obtain ⟨y, hw''⟩ := hw'; subst hw''; have hby := y.b
      go_wp2_with fail
      go_ret
      exact ⟨by rw [HF.out]; rfl, bchain HBX.out hby⟩
    rw [hq1] at hQ
    cases k with
    | zero =>
      have HLE : Hid ((0 : Nat) = 0 ∨ leS (tn L 0).nm (tn L (0 - 1)).nm = false) := .inl rfl
      have hk0 : decide ((0 : Int) < ((0 : Nat) : Int)) = false := rfl
      have hne : Nonempty (Later X) := ⟨⟨X, Below.refl _ _⟩⟩; refine region_later (by kernel_rfl) (by kernel_rfl) ?_; repeat (go_big_quiet_step (fail))
      go_big_quiet_want; go_big_quiet_op; refine ⟨.bool true, fun y => later_calls (x := y) (hN y.w), ?_⟩; go_big_quiet_on; repeat (go_big_quiet_step (fail))
      go_big_quiet_want; go_big_quiet_op; refine ⟨.bool true, fun y => later_calls (x := y) (hK y.w), ?_⟩; go_big_quiet_on; repeat (go_big_quiet_step (fail))
      go_big_quiet_want; go_big_quiet_op; refine ⟨.bool true, fun y => later_calls (x := y) (hQ y.w), ?_⟩; go_big_quiet_on; repeat (go_big_quiet_step (fail))
      refine wpQuiet_nil ?_; intro _ hw'; obtain ⟨y, hw''⟩ := hw'; subst hw''; have hby := y.b
      have qq2 := qe2 y; have HLS2 := hide (HLS.out.new hby); have HB2 := hide (bchain HBX.out hby); have xl2 := Nat.lt_of_lt_of_le xl hby.size; clear qe0 qe1 qe2 qe3 hne HLS HBX; (try clear qp0); go_wp2_with fail; go_loop [5] (fun i => ∃ q : Nat, i = .int .i64 (q : Int) ∧ q ≤ x.list.length ∧ Hid (∀ s ∈ x.list.take q, s.size ≤ 60)) (fun i => x.list.length - (intOf i).toNat)
      case atStart => exact ⟨0, rfl, Nat.zero_le _, by show ∀ s ∈ x.list.take 0, _; simp⟩
      case round =>
        obtain ⟨q, rfl, hq, H60⟩ := hrel
        by_cases hqs : q < x.list.length
        · have hqI : (q : Int) < x.list.length := by omega
          obtain ⟨b9, o9, rfl, hb9, cx, hsx⟩ := strs_at HLS2.out hqs
          obtain ⟨s, hs⟩ : ∃ s, x.list[q] = s := ⟨_, rfl⟩
          rw [hs] at cx hsx
          by_cases hs60 : (60 : Int) < s.size
          · have HF : Hid (A = false) := HNO.out (tn_not (fun h => (okTn_iff.1 h).2.2.2.2 s (by rw [← hs]; exact List.getElem_mem hqs)) (by omega))
            clear hs
            go_wp2_with fail
            go_ret
            exact ⟨by rw [HF.out]; rfl, HB2.out⟩
          · have H602 : Hid (∀ z ∈ x.list.take (q + 1), z.size ≤ 60) := by
              show ∀ z ∈ _, _
              intro z hz
              rw [List.take_add_one, List.getElem?_eq_getElem hqs, hs] at hz
              rcases List.mem_append.1 hz with h | h
              · exact H60.out z h
              · simp at h; subst h; omega
            clear hs
            go_wp2_with fail
            go_round
            case rel => exact ⟨q + 1, by go_num, by omega, H602⟩
            case measure => simp [intOf]; omega
        · have hqI : ¬ (q : Int) < x.list.length := by omega
          have HOKX : Hid (okTn x = true) := okTn_iff.2 ⟨hi, hk1, by omega, hq1, fun s hs => H60.out s (by rw [List.take_of_length_le (by omega)]; exact hs)⟩
          have HC2 : Hid (∀ j, j < 0 + 1 → okTn (tn L j) = true ∧ (j = 0 ∨ leS (tn L j).nm (tn L (j - 1)).nm = false)) := fun j hj => by
            by_cases ej : j = 0
            · subst ej; exact ⟨by rw [HE.out]; exact HOKX.out, by first | exact HLE.out | exact .inl rfl⟩
            · exact HC.out j (by omega)
          go_wp2_with fail
          go_roundw
          case rel => exact ⟨0 + 1, by go_num, by omega, HC2, HB2⟩
          case measure => simp [intOf]; omega
    | succ m =>
      have hm : m < L.length := by omega
      obtain ⟨b2, o2, cs2, hbo, hbw2, hrd2, hc2⟩ := HRX.out.at m hm
      simp only [Option.some.injEq, Addr.mk.injEq] at hbo
      obtain ⟨rfl, rfl, -⟩ := hbo
      obtain ⟨vl2, rfl, _, _, _⟩ := hrd2
      have hp0 : X.cell? ⟨b, o + m * 4, none⟩ = some (.string (L[m]'hm).nm) := hc2 0 _ rfl
      clear hc2
      have HPE : Hid (tn L m = L[m]) := tn_get hm
      obtain ⟨pn, hpn⟩ : ∃ pn, (L[m]'hm).nm = pn := ⟨_, rfl⟩
      rw [hpn] at hp0
      have HPN : Hid ((tn L m).nm = pn) := by show _ = pn; rw [HPE.out, hpn]
      clear hpn HPE
      have qp0 : ∀ y : Later X, y.w.cell? ⟨b, o + m * 4, none⟩ = some (.string pn) := fun y => (y.b.cell (p := ⟨b, o + m * 4, none⟩) hbw2).trans hp0
      clear hp0
      have hm1 : (((m + 1 : Nat) : Int) - 1) = (m : Int) := by omega
      have hm0 : (0 : Int) < ((m + 1 : Nat) : Int) := by omega
      cases hle : leS x.nm pn
      rotate_left
      · have HF : Hid (A = false) := by
          show A = false
          rw [← HA.out]
          refine ts_false fun c => ?_
          rcases (c.2 (m + 1) hlt).2 with h | h
          · omega
          · rw [HE.out] at h
            simp only [Nat.add_sub_cancel] at h
            rw [HPN.out, hle] at h
            cases h
        unfold leS at hle
        have hne : Nonempty (Later X) := ⟨⟨X, Below.refl _ _⟩⟩; refine region_later (by kernel_rfl) (by kernel_rfl) ?_; repeat (go_big_quiet_step (fail))
        go_big_quiet_want; go_big_quiet_op; refine ⟨.bool true, fun y => later_calls (x := y) (hN y.w), ?_⟩; go_big_quiet_on; repeat (go_big_quiet_step (fail))
        go_big_quiet_want; go_big_quiet_op; refine ⟨.bool true, fun y => later_calls (x := y) (hK y.w), ?_⟩; go_big_quiet_on; repeat (go_big_quiet_step (fail))
        go_big_quiet_want; go_big_quiet_op; refine ⟨.bool true, fun y => later_calls (x := y) (hQ y.w), ?_⟩; go_big_quiet_on; repeat (go_big_quiet_step (fail))
        refine wpQuiet_nil ?_; intro _ hw'; obtain ⟨y, hw''⟩ := hw'; subst hw''; have hby := y.b
        go_wp2_with fail
        go_ret
        exact ⟨by rw [HF.out]; rfl, bchain HBX.out hby⟩
      have HLE : Hid (m + 1 = 0 ∨ leS (tn L (m + 1)).nm (tn L (m + 1 - 1)).nm = false) := .inr (by rw [HE.out]; simp only [Nat.add_sub_cancel]; rw [HPN.out]; exact hle)
      unfold leS at hle
      have hne : Nonempty (Later X) := ⟨⟨X, Below.refl _ _⟩⟩; refine region_later (by kernel_rfl) (by kernel_rfl) ?_; repeat (go_big_quiet_step (fail))
      go_big_quiet_want; go_big_quiet_op; refine ⟨.bool true, fun y => later_calls (x := y) (hN y.w), ?_⟩; go_big_quiet_on; repeat (go_big_quiet_step (fail))
      go_big_quiet_want; go_big_quiet_op; refine ⟨.bool true, fun y => later_calls (x := y) (hK y.w), ?_⟩; go_big_quiet_on; repeat (go_big_quiet_step (fail))
      go_big_quiet_want; go_big_quiet_op; refine ⟨.bool true, fun y => later_calls (x := y) (hQ y.w), ?_⟩; go_big_quiet_on; repeat (go_big_quiet_step (fail))
      refine wpQuiet_nil ?_; intro _ hw'; obtain ⟨y, hw''⟩ := hw'; subst hw''; have hby := y.b
      clear hle
      have qq2 := qe2 y; have HLS2 := hide (HLS.out.new hby); have HB2 := hide (bchain HBX.out hby); have xl2 := Nat.lt_of_lt_of_le xl hby.size; clear qe0 qe1 qe2 qe3 hne HLS HBX; (try clear qp0); go_wp2_with fail; go_loop [5] (fun i => ∃ q : Nat, i = .int .i64 (q : Int) ∧ q ≤ x.list.length ∧ Hid (∀ s ∈ x.list.take q, s.size ≤ 60)) (fun i => x.list.length - (intOf i).toNat)
      case atStart => exact ⟨0, rfl, Nat.zero_le _, by show ∀ s ∈ x.list.take 0, _; simp⟩
      case round =>
        obtain ⟨q, rfl, hq, H60⟩ := hrel
        by_cases hqs : q < x.list.length
        · have hqI : (q : Int) < x.list.length := by omega
          obtain ⟨b9, o9, rfl, hb9, cx, hsx⟩ := strs_at HLS2.out hqs
          obtain ⟨s, hs⟩ : ∃ s, x.list[q] = s := ⟨_, rfl⟩
          rw [hs] at cx hsx
          by_cases hs60 : (60 : Int) < s.size
          · have HF : Hid (A = false) := HNO.out (tn_not (fun h => (okTn_iff.1 h).2.2.2.2 s (by rw [← hs]; exact List.getElem_mem hqs)) (by omega))
            clear hs
            go_wp2_with fail
            go_ret
            exact ⟨by rw [HF.out]; rfl, HB2.out⟩
          · have H602 : Hid (∀ z ∈ x.list.take (q + 1), z.size ≤ 60) := by
              show ∀ z ∈ _, _
              intro z hz
              rw [List.take_add_one, List.getElem?_eq_getElem hqs, hs] at hz
              rcases List.mem_append.1 hz with h | h
              · exact H60.out z h
              · simp at h; subst h; omega
            clear hs
            go_wp2_with fail
            go_round
            case rel => exact ⟨q + 1, by go_num, by omega, H602⟩
            case measure => simp [intOf]; omega
        · have hqI : ¬ (q : Int) < x.list.length := by omega
          have HOKX : Hid (okTn x = true) := okTn_iff.2 ⟨hi, hk1, by omega, hq1, fun s hs => H60.out s (by rw [List.take_of_length_le (by omega)]; exact hs)⟩
          have HC2 : Hid (∀ j, j < (m + 1) + 1 → okTn (tn L j) = true ∧ (j = 0 ∨ leS (tn L j).nm (tn L (j - 1)).nm = false)) := fun j hj => by
            by_cases ej : j = (m + 1)
            · subst ej; exact ⟨by rw [HE.out]; exact HOKX.out, by first | exact HLE.out | exact .inl rfl⟩
            · exact HC.out j (by omega)
          go_wp2_with fail
          go_roundw
          case rel => exact ⟨(m + 1) + 1, by go_num, by omega, HC2, HB2⟩
          case measure => simp [intOf]; omega
end Go.Proofs.YtfemmnhfllbgjaaGreatDoor
/- What the laws of tokens draw: tokens, bent or not, and keys and times beside them. -/
namespace Go.Proofs.YtfemmnhfllbgjaaGreatDoor
open Go.RowKit
set_option maxRecDepth 100000
set_option linter.unusedSimpArgs false
set_option linter.unusedVariables false
theorem tok_size (name : ByteArray) (u : Int) (key : ByteArray) : (tokV name u key).size ≤ 40 := by
  unfold tokV
  rw [strOf_size]
  unfold tokL
  split
  · rename_i h
    have h1 := name_size h.1
    have h2 := inB_true h.2.1
    have m := macV_range key (strOf (tokB name u))
    have d1 := decL_short 7 u.toNat (by omega) (by decide)
    have d2 := decL_short 10 (macV key (strOf (tokB name u))).toNat (by omega) (by decide)
    unfold tokB
    simp only [List.length_append, List.length_cons, List.length_nil, bys_len]
    unfold tokB at d2
    omega
  · simp
set_option maxHeartbeats 2000000 in
theorem drawToken14 (g B : Nat) (w : World) (hc : Cur w g B) :
    Calls Tryz.prog 27 #[.pointer (some ⟨g, 0, none⟩)] w fun e w' => ∃ z : ByteArray, z.size ≤ 100 ∧ e = .returned (.string z) ∧ Cur w' g B ∧ Moves g w w' := by
  have hgw := hc.lt
  go_enter Tryz.func27, Tryz.ntmps27
  go_wp2_with fail
  refine (drawName14 g B _ hc).mono ?_; rintro e w1 ⟨nm, hnm, rfl, hc1, hm1⟩
  go_wp2_with fail
  refine (below1 g B 60 _ hc1 (by omega)).mono ?_; rintro e w2 ⟨u, u0, u1, _, rfl, hc2, hm2⟩
  have hm12 := hm1.trans hm2
  clear hm1 hm2 u1
  go_wp2_with fail
  obtain ⟨VA, hVA⟩ : ∃ V, w2.alloc (.cells #[.string ⟨#[107, 49]⟩, .string ⟨#[107, 50]⟩] 9) = V := ⟨_, rfl⟩
  have RA : RowIs VA w2.heap.size 9 [.string ⟨#[107, 49]⟩, .string ⟨#[107, 50]⟩] := by rw [← hVA]; exact rowIs_new w2 _ _
  have hbA : Below w2.heap.size w2 VA := by rw [← hVA]; exact (Below.refl _ _).alloc (Nat.le_refl _) _
  rw [hVA]
  clear hVA
  have hgA := hc2.lt
  refine (below1 g B 2 _ (hc2.below hbA) (by omega)).mono ?_; rintro e w3 ⟨q, q0, q1, _, rfl, hcq, hmq⟩
  have q6 := q1 (by omega)
  replace RA := RA.moves hmq (by omega)
  obtain ⟨qn, rfl⟩ : ∃ n : Nat, q = n := ⟨q.toNat, by omega⟩
  obtain ⟨key, hk0, hkz⟩ : ∃ z : ByteArray, z.size ≤ 40 ∧ w3.cell? ⟨w2.heap.size, qn, none⟩ = some (.string z) := by
    have : qn = 0 ∨ qn = 1 := by omega
    rcases this with rfl | rfl <;> exact ⟨_, by decide, RA.cell rfl⟩
  have hlA := RA.lt
  have hmA := (hm12.trans (Moves.of_below hbA)).trans hmq
  clear q1 RA hbA hmq
  have hts := tok_size nm u key
  have htk := fun w => specToken nm u key w (by unfold maxLen; omega) (by unfold maxLen; omega)
  obtain ⟨t, ht⟩ : ∃ t, tokV nm u key = t := ⟨_, rfl⟩
  rw [ht] at htk hts
  clear ht
  go_wp2_with fail
  refine (htk _).mono ?_; rintro e w4 ⟨rfl, hb4⟩
  have hc4 := hcq.below hb4
  have hm4 := hmA.trans (Moves.of_below hb4)
  clear hkz hlA
  go_wp2_with fail
  refine (once1 g B 4 _ hc4 (by omega)).mono ?_; rintro e w5 ⟨b, rfl, hc5, hm5⟩
  cases b
  · go_wp2_with fail
    go_ret
    exact ⟨t, by omega, rfl, hc5, hm4.trans hm5⟩
  · go_wp2_with fail
    refine (bend1 g B t _ _ hc5 (by omega) (by decide) (by decide)).mono ?_; rintro e w6 ⟨t2, ht2, rfl, hc6, hm6⟩
    go_wp2_with fail
    go_ret
    exact ⟨t2, by omega, rfl, hc6, (hm4.trans hm5).trans hm6⟩
end Go.Proofs.YtfemmnhfllbgjaaGreatDoor
/- Tenants in plain words, for the law FnAdmits: names that rise are apart, who is reached is found and listed, what each code tells. -/
namespace Go.Proofs.YtfemmnhfllbgjaaGreatDoor
open Go.RowKit
set_option maxRecDepth 100000
set_option linter.unusedSimpArgs false
set_option linter.unusedVariables false
theorem less_irr : ∀ x : List UInt8, Op.bytesLess x x = false
  | [] => rfl
  | a :: x => by simp [Op.bytesLess, less_irr x]
theorem less_tr : ∀ x y z : List UInt8, Op.bytesLess x y = true → Op.bytesLess y z = true → Op.bytesLess x z = true
  | _, [], _, h, _ => by simp [Op.bytesLess] at h
  | _, b :: y, [], _, h => by simp [Op.bytesLess] at h
  | [], b :: y, c :: z, _, _ => by simp [Op.bytesLess]
  | a :: x, b :: y, c :: z, h1, h2 => by
    simp only [Op.bytesLess, Bool.or_eq_true, decide_eq_true_eq, Bool.and_eq_true, beq_iff_eq] at h1 h2 ⊢
    rcases h1 with h1 | ⟨rfl, h1⟩
    · rcases h2 with h2 | ⟨rfl, h2⟩
      · exact .inl (UInt8.lt_trans h1 h2)
      · exact .inl h1
    · rcases h2 with h2 | ⟨rfl, h2⟩
      · exact .inl h2
      · exact .inr ⟨rfl, less_tr x y z h1 h2⟩
theorem less_tot : ∀ x y : List UInt8, Op.bytesLess x y = false → x ≠ y → Op.bytesLess y x = true
  | [], [], _, h => absurd rfl h
  | [], b :: y, h, _ => by simp [Op.bytesLess] at h
  | a :: x, [], _, _ => by simp [Op.bytesLess]
  | a :: x, b :: y, h, hn => by
    simp only [Op.bytesLess, Bool.or_eq_false_iff, decide_eq_false_iff_not, Bool.and_eq_false_iff, beq_eq_false_iff_ne] at h
    simp only [Op.bytesLess, Bool.or_eq_true, decide_eq_true_eq, Bool.and_eq_true, beq_iff_eq]
    obtain ⟨h1, h2⟩ := h
    by_cases e : a = b
    · subst e
      rcases h2 with h2 | h2
      · exact absurd rfl h2
      · exact .inr ⟨rfl, less_tot x y h2 (fun e => hn (by rw [e]))⟩
    · refine .inl ?_
      rcases UInt8.lt_or_lt_of_ne e with h | h
      · exact absurd h h1
      · exact h
theorem le_lt {a b : ByteArray} (h : leS b a = false) : Op.bytesLess a.toList b.toList = true := by
  unfold leS at h
  simp only [Bool.or_eq_false_iff, beq_eq_false_iff_ne] at h
  exact less_tot _ _ h.1 h.2
theorem rises {L : List TenantD} (h : okTs L = true) : ∀ j i, i < j → j < L.length → Op.bytesLess (tn L i).nm.toList (tn L j).nm.toList = true := by
  obtain ⟨_, hall⟩ := okTs_iff.1 h
  intro j
  induction j with
  | zero => intro i hi; omega
  | succ j ih =>
    intro i hi hj
    have h1 : leS (tn L (j + 1)).nm (tn L j).nm = false := by
      rcases (hall (j + 1) hj).2 with h0 | h0
      · omega
      · exact h0
    have h2 := le_lt h1
    by_cases e : i = j
    · subst e; exact h2
    · exact less_tr _ _ _ (ih i (by omega) (by omega)) h2
theorem apart_names {L : List TenantD} (h : okTs L = true) {i j : Nat} (hi : i < L.length) (hj : j < L.length) (e : (tn L i).nm = (tn L j).nm) : i = j := by
  rcases Nat.lt_trichotomy i j with h1 | h1 | h1
  · have := rises h j i h1 hj; rw [e, less_irr] at this; cases this
  · exact h1
  · have := rises h i j h1 hi; rw [e, less_irr] at this; cases this
/-- Who is there is found. -/
theorem at_is {L : List TenantD} (h : okTs L = true) {i : Nat} (hi : i < L.length) : atV L (tn L i).nm = i := by
  by_cases h0 : 0 ≤ atV L (tn L i).nm
  · obtain ⟨k, hk, he, hn⟩ := at_found h0
    rw [he, apart_names h hk hi hn]
  · have h1 : ∀ (M : List TenantD) (m : Nat), (tn L i) ∈ M → 0 ≤ atF (tn L i).nm m M := by
      intro M
      induction M with
      | nil => intro m hm; cases hm
      | cons d M ih =>
        intro m hm
        unfold atF
        by_cases e : d.nm = (tn L i).nm
        · simp [e]
        · simp only [e, if_false]
          refine ih _ ?_
          rcases List.mem_cons.1 hm with h | h
          · exact absurd (by rw [h]) e
          · exact h
    exact absurd (h1 L 0 (by rw [tn_get hi]; exact List.getElem_mem hi)) h0
/-- Who is reached is there, and the place is on its list. -/
theorem reach_is {L : List TenantD} {target nm : ByteArray} (h : nm ∈ reachV L target) : (tenantV L nm).2 = true ∧ listV (tenantV L nm).1.list target = true := by
  unfold reachV at h
  split at h
  · rename_i hok
    obtain ⟨x, hx, rfl⟩ := List.mem_map.1 h
    obtain ⟨hx, hl⟩ := List.mem_filter.1 hx
    obtain ⟨i, hi, rfl⟩ := List.mem_iff_getElem.1 hx
    have e : L[i] = tn L i := (tn_get hi).symm
    rw [e] at hl ⊢
    have ha := at_is hok hi
    unfold tenantV
    rw [if_pos ⟨hok, by rw [ha]; omega⟩, ha]
    exact ⟨rfl, by simpa using hl⟩
  · cases h
/-- Is it right: a token that is read, a tenant that is there, that lasts, that is signed? -/
def rightV (L : List TenantD) (token : ByteArray) (now : Int) : Bool :=
  (readV token).2.2 && (tenantV L (readV token).1).2 && decide ((readV token).2.1 > now) && signV token (tenantV L (readV token).1).1.key now
theorem admit_codes {L : List TenantD} {token target : ByteArray} {now op : Int} :
    (admitV L token target now op = 500 ∧ (okTs L = false ∨ now < 0 ∨ 1000000 < now ∨ op < 0)) ∨
    (admitV L token target now op = 401 ∧ rightV L token now = false) ∨
    (admitV L token target now op = 403 ∧ rightV L token now = true ∧ listV (tenantV L (readV token).1).1.list target = false) ∨
    (admitV L token target now op = 429 ∧ rightV L token now = true ∧ listV (tenantV L (readV token).1).1.list target = true ∧ (tenantV L (readV token).1).1.quota ≤ op) ∨
    (admitV L token target now op = 200 ∧ rightV L token now = true ∧ listV (tenantV L (readV token).1).1.list target = true ∧ op < (tenantV L (readV token).1).1.quota) := by
  unfold admitV
  split
  · rename_i h
    refine .inl ⟨rfl, ?_⟩
    rcases h with h | h | h
    · exact .inl h
    · have := inB_false (x := now) (lo := 0) (hi := 1000000) h
      right
      by_cases hn : now < 0
      · exact .inl hn
      · right; left; omega
    · exact .inr (.inr (.inr h))
  rename_i h
  have hok : okTs L = true := by cases e : okTs L with | true => rfl | false => exact absurd (.inl e) h
  split
  · rename_i h4
    refine .inr (.inl ⟨rfl, ?_⟩)
    unfold rightV tenantV
    rcases h4 with h4 | h4 | h4
    · simp [h4]
    · rw [if_neg (by omega)]; simp
    · by_cases ha : 0 ≤ atV L (readV token).1
      · rw [if_pos ⟨hok, ha⟩]; dsimp only; rw [h4, Bool.and_false]
      · rw [if_neg (by omega)]; simp
  rename_i h4
  have hr : (readV token).2.2 = true := by cases e : (readV token).2.2 with | true => rfl | false => exact absurd (.inl e) h4
  have ha : 0 ≤ atV L (readV token).1 := by
    by_cases e : 0 ≤ atV L (readV token).1
    · exact e
    · exact absurd (.inr (.inl (by omega))) h4
  have hs : signV token (tn L (atV L (readV token).1).toNat).key now = true := by
    cases e : signV token (tn L (atV L (readV token).1).toNat).key now with
    | true => rfl
    | false => exact absurd (.inr (.inr e)) h4
  have ht : tenantV L (readV token).1 = (tn L (atV L (readV token).1).toNat, true) := by unfold tenantV; rw [if_pos ⟨hok, ha⟩]
  have hrt : rightV L token now = true := by
    unfold rightV
    rw [ht]
    obtain ⟨_, h2, _⟩ := sign_is hs
    dsimp only
    rw [hs, hr]
    simp [h2]
  rw [ht]
  dsimp only
  split
  · rename_i h5
    exact .inr (.inr (.inl ⟨rfl, hrt, h5⟩))
  rename_i h5
  have hl : listV (tn L (atV L (readV token).1).toNat).list target = true := by cases e : listV (tn L (atV L (readV token).1).toNat).list target with | true => rfl | false => exact absurd e h5
  split
  · rename_i h6
    exact .inr (.inr (.inr (.inl ⟨rfl, hrt, hl, h6⟩)))
  · rename_i h6
    exact .inr (.inr (.inr (.inr ⟨rfl, hrt, hl, by omega⟩)))
end Go.Proofs.YtfemmnhfllbgjaaGreatDoor
/- Chapter 14's program: tokens made, read and signed. -/
namespace Go.Proofs.YtfemmnhfllbgjaaGreatDoor
open Go.RowKit
set_option maxRecDepth 100000
set_option linter.unusedSimpArgs false
set_option linter.unusedVariables false
set_option maxHeartbeats 2000000 in
theorem implToken (name : ByteArray) (u : Int) (key : ByteArray) (w : World) (hn : name.size ≤ maxLen) (hk : key.size ≤ maxLen) (ht : TabV w) : Calls Tryz.prog 53 #[.string name, .int .i64 u, .string key] w fun x w' => x = .returned (.string (tokV name u key)) ∧ Below w.heap.size w w' := by
  have hnm := fun w => implName name w hn
  have htm := fun w => implWithin u 0 1000000 w
  have hkm := hk
  unfold maxLen at hkm
  obtain ⟨A, hA⟩ : ∃ A, tokV name u key = A := ⟨_, rfl⟩
  rw [hA]
  have HA := hide hA
  clear hA
  cases h1 : nameB name
  · rw [h1] at hnm
    have HF : Hid (A = ⟨#[]⟩) := by show A = _; rw [← HA.out]; exact tokV_no (by rw [h1]; simp)
    go_enter Tryz.func53, Tryz.ntmps53
    go_wp2_with fail
    refine (hnm _).mono ?_; rintro e w1 ⟨rfl, hsame⟩; obtain rfl := hsame.symm; clear hsame
    go_wp2_with fail
    go_ret
    exact ⟨by rw [HF.out]; rfl, (by repeat' (first | (with_reducible exact Below.refl _ _) | (with_reducible refine Below.drew ?_) | (with_reducible refine bo_drewN _ ?_) | (with_reducible refine bo_alloc ?_ _) | (refine bchain ?_ (by with_reducible assumption)) | (with_reducible refine Below.setCell ?_ ?_ _) | go_size))⟩
  rw [h1] at hnm
  cases h2 : inB u 0 1000000
  · rw [h2] at htm
    have HF : Hid (A = ⟨#[]⟩) := by show A = _; rw [← HA.out]; exact tokV_no (by unfold timeB; rw [h2]; simp)
    go_enter Tryz.func53, Tryz.ntmps53
    go_wp2_with fail
    refine (hnm _).mono ?_; rintro e w1 ⟨rfl, hsame⟩; obtain rfl := hsame.symm; clear hsame
    go_wp2_with fail
    refine (htm _).mono ?_; rintro e w1 ⟨rfl, hsame⟩; obtain rfl := hsame.symm; clear hsame
    go_wp2_with fail
    go_ret
    exact ⟨by rw [HF.out]; rfl, (by repeat' (first | (with_reducible exact Below.refl _ _) | (with_reducible refine Below.drew ?_) | (with_reducible refine bo_drewN _ ?_) | (with_reducible refine bo_alloc ?_ _) | (refine bchain ?_ (by with_reducible assumption)) | (with_reducible refine Below.setCell ?_ ?_ _) | go_size))⟩
  rw [h2] at htm
  by_cases h3 : (40 : Int) < key.size
  · have HF : Hid (A = ⟨#[]⟩) := by show A = _; rw [← HA.out]; exact tokV_no (by omega)
    go_enter Tryz.func53, Tryz.ntmps53
    go_wp2_with fail
    refine (hnm _).mono ?_; rintro e w1 ⟨rfl, hsame⟩; obtain rfl := hsame.symm; clear hsame
    go_wp2_with fail
    refine (htm _).mono ?_; rintro e w1 ⟨rfl, hsame⟩; obtain rfl := hsame.symm; clear hsame
    go_wp2_with fail
    go_ret
    exact ⟨by rw [HF.out]; rfl, (by repeat' (first | (with_reducible exact Below.refl _ _) | (with_reducible refine Below.drew ?_) | (with_reducible refine bo_drewN _ ?_) | (with_reducible refine bo_alloc ?_ _) | (refine bchain ?_ (by with_reducible assumption)) | (with_reducible refine Below.setCell ?_ ?_ _) | go_size))⟩
  obtain ⟨u0, u1⟩ := inB_true h2
  have hp := tok_parts (name := name) (u := u) (key := key) ⟨h1, by unfold timeB; exact h2, by omega⟩
  have hns := name_size h1
  have hmr := macV_range key (strOf (tokB name u))
  obtain ⟨n, rfl⟩ : ∃ n : Nat, u = n := ⟨u.toNat, by omega⟩
  rw [Int.toNat_natCast] at hp
  have hls := decL_short 7 n (by omega) (by decide)
  have hf1 := fun w' (hb : Below w.heap.size w w') => libFormat n w' (by omega) (ht.new hb)
  have hs1 : (strOf (decL n)).size ≤ 7 := by rw [strOf_size]; exact hls
  obtain ⟨D, hD⟩ : ∃ D, strOf (decL n) = D := ⟨_, rfl⟩
  rw [hD] at hp hf1 hs1
  have hhs : (strOf (tokB name n)).size ≤ 40 := by rw [← hp.1, ba_size_append, ba_size_append]; have : (⟨#[46]⟩ : ByteArray).size = 1 := rfl; omega
  have hmac := fun w => implMac key (strOf (tokB name n)) w hk (by unfold maxLen; omega)
  obtain ⟨H, hH⟩ : ∃ H, strOf (tokB name n) = H := ⟨_, rfl⟩
  rw [hH] at hp hmr hmac hhs
  obtain ⟨m, hm⟩ : ∃ m : Nat, macV key H = m := ⟨(macV key H).toNat, by omega⟩
  rw [hm] at hmr hmac hp
  rw [Int.toNat_natCast] at hp
  have hf2 := fun w' (hb : Below w.heap.size w w') => libFormat m w' (by omega) (ht.new hb)
  have hls2 := decL_short 10 m (by omega) (by decide)
  have hs2 : (strOf (decL m)).size ≤ 10 := by rw [strOf_size]; exact hls2
  obtain ⟨E, hE⟩ : ∃ E, strOf (decL m) = E := ⟨_, rfl⟩
  rw [hE] at hp hf2 hs2
  have hp2 : H ++ (⟨#[46]⟩ : ByteArray) ++ E = A := by rw [hp.2]; exact HA.out
  have hp1 := hp.1
  clear hp hD hH hm hE HA ht hls hls2 h1 h2
  go_enter Tryz.func53, Tryz.ntmps53
  go_wp2_with fail
  refine (hnm _).mono ?_; rintro e w1 ⟨rfl, hsame⟩; obtain rfl := hsame.symm; clear hsame
  go_wp2_with fail
  refine (htm _).mono ?_; rintro e w1 ⟨rfl, hsame⟩; obtain rfl := hsame.symm; clear hsame
  go_wp2_with fail
  refine (hf1 _ (Below.refl _ _)).mono ?_; rintro x w1 ⟨rfl, hb1⟩
  go_wp2_with fail
  refine (hmac _).mono ?_; rintro x w2 ⟨rfl, hb2⟩
  go_wp2_with fail
  refine (hf2 _ (bchain hb1 hb2)).mono ?_; rintro x w3 ⟨rfl, hb3⟩
  go_wp2_with fail
  go_ret
  exact ⟨rfl, bchain (bchain hb1 hb2) hb3⟩
theorem split_size : ∀ (k : Nat) (s : ByteArray), ∀ x ∈ Lib.splitB ⟨#[46]⟩ 0 k s, x.size ≤ s.size
  | 0, s => by intro x hx; rw [Lib.splitB_zero] at hx; simp at hx; rw [hx]; exact Nat.le_refl _
  | k + 1, s => by
    intro x hx
    unfold Lib.splitB at hx
    have hex : ∀ i j, (s.extract i j).size ≤ s.size := fun i j => by
      rw [← bys_len, ← bys_len s, bys_extract, List.length_drop, List.length_take]; omega
    split at hx
    · simp at hx; rw [hx]; exact Nat.le_refl _
    · rcases List.mem_cons.1 hx with rfl | hx
      · exact hex _ _
      · exact Nat.le_trans (split_size k _ x hx) (hex _ _)
theorem read_no3 {s : ByteArray} (h : (Lib.splitB ⟨#[46]⟩ 0 (min 3 (s.size + 1) - 1) s).length ≠ 3) : readV s = (⟨#[]⟩, 0, false) := by
  rw [read_way]
  match hP : Lib.splitB ⟨#[46]⟩ 0 (min 3 (s.size + 1) - 1) s with
  | [] => rfl
  | [_] => rfl
  | [_, _] => rfl
  | [_, _, _] => rw [hP] at h; exact absurd rfl h
  | _ :: _ :: _ :: _ :: _ => rfl
theorem readW_no {x y z : ByteArray} (h : ¬ (nameB x = true ∧ (numT y 1000000).2 = true ∧ (numT z 2147483646).2 = true)) : readW x y z = (⟨#[]⟩, 0, false) := by unfold readW; rw [if_neg h]
set_option maxHeartbeats 2000000 in
theorem implReadToken (s : ByteArray) (w : World) (hs : s.size ≤ 2000000) (ht : TabV w) (he : ErrV w) : Calls Tryz.prog 20 #[.string s] w fun x w' => x = .returned (.tuple #[.string (readV s).1, .int .i64 (readV s).2.1, .bool (readV s).2.2]) ∧ Below w.heap.size w w' := by
  have hsp := libSplit s w (by omega) he
  have hsz := split_size (min 3 (s.size + 1) - 1) s
  have hlen := Lib.splitB_length_le ⟨#[46]⟩ 0 (min 3 (s.size + 1) - 1) s
  have hno := read_no3 (s := s)
  have hyes := read_way s
  obtain ⟨R, hR⟩ : ∃ R, readV s = R := ⟨_, rfl⟩
  rw [hR] at hno hyes ⊢
  clear hR
  generalize hP : Lib.splitB ⟨#[46]⟩ 0 (min 3 (s.size + 1) - 1) s = P at *
  clear hP
  by_cases h3 : P.length = 3
  · obtain ⟨x, y, z, rfl⟩ : ∃ x y z, P = [x, y, z] := by
      match P, h3 with
      | [x, y, z], _ => exact ⟨x, y, z, rfl⟩
    have hc3 : min 3 (s.size + 1) = 3 := by simp at hlen; omega
    rw [hc3] at hsp
    have hxs := hsz x (by simp)
    have hys := hsz y (by simp)
    have hzs := hsz z (by simp)
    have hyes' : R = readW x y z := hyes
    clear hno hyes hsz hlen hc3 h3
    have hcells : Lib.cellsOf [x, y, z] 3 = #[.string x, .string y, .string z] := rfl
    rw [hcells] at hsp
    have hsp' : Calls Tryz.prog 50 #[.string s, .string ⟨#[46]⟩, .int .i64 3] w fun e w' => e = .returned (.slice (some ⟨w.heap.size, 0, none⟩) 3 3) ∧ RowIs w' w.heap.size 9 [.string x, .string y, .string z] ∧ Below w.heap.size w w' := by
      refine hsp.mono ?_
      rintro e w' ⟨rfl, rfl⟩
      exact ⟨rfl, rowIs_new w 9 [.string x, .string y, .string z], (Below.refl _ _).alloc (Nat.le_refl _) _⟩
    have hnm := fun w => implName x w (by unfold maxLen; omega)
    have hy' := fun w' (hb : Below w.heap.size w w') => implNumT y 1000000 w' (by omega) (by omega) (ht.new hb) (he.new hb)
    have hz' := fun w' (hb : Below w.heap.size w w') => implNumT z 2147483646 w' (by omega) (by omega) (ht.new hb) (he.new hb)
    have hcl := fun w => clone x w (by omega)
    have HNO := fun h => hyes'.trans (readW_no (x := x) (y := y) (z := z) h)
    have HYES : nameB x = true ∧ (numT y 1000000).2 = true ∧ (numT z 2147483646).2 = true → R = (x, (numT y 1000000).1, true) := fun h => by rw [hyes']; unfold readW; rw [if_pos h]
    obtain ⟨⟨yv, yb⟩, hY⟩ : ∃ q, numT y 1000000 = q := ⟨_, rfl⟩
    obtain ⟨⟨zv, zb⟩, hZ⟩ : ∃ q, numT z 2147483646 = q := ⟨_, rfl⟩
    obtain ⟨nb, hN⟩ : ∃ q, nameB x = q := ⟨_, rfl⟩
    rw [hY, hZ, hN] at HNO HYES
    rw [hY] at hy'
    rw [hZ] at hz'
    rw [hN] at hnm
    dsimp only at hy' hz' HNO HYES
    clear hyes' hsp hY hZ hN ht he hcells
    cases nb
    · have HF := hide (HNO (by simp))
      clear HNO HYES
      go_enter Tryz.func20, Tryz.ntmps20
      go_wp2_with fail
      refine hsp'.mono ?_; rintro e w1 ⟨rfl, R1, hb1⟩
      have c0 := R1.cell (j := 0) rfl
      clear R1
      go_wp2_with fail
      refine (hnm _).mono ?_; rintro e w2 ⟨rfl, hsame⟩; obtain rfl := hsame.symm; clear hsame
      go_wp2_with fail
      refine bodyPost_ret (v := (.tuple #[.string ⟨#[]⟩, .int .i64 0, .bool false])) (by simp [results, Tryz.results20, go_sem, *]) rfl ?_
      exact ⟨by rw [HF.out], hb1⟩
    cases yb
    · have HF := hide (HNO (by simp))
      clear HNO HYES
      go_enter Tryz.func20, Tryz.ntmps20
      go_wp2_with fail
      refine hsp'.mono ?_; rintro e w1 ⟨rfl, R1, hb1⟩
      have c0 := R1.cell (j := 0) rfl
      have c1 := R1.cell (j := 1) rfl
      clear R1
      go_wp2_with fail
      refine (hnm _).mono ?_; rintro e w2 ⟨rfl, hsame⟩; obtain rfl := hsame.symm; clear hsame
      go_wp2_with fail
      refine (hy' _ hb1).mono ?_; rintro e w2 ⟨rfl, hb2⟩
      go_wp2_with fail
      refine bodyPost_ret (v := (.tuple #[.string ⟨#[]⟩, .int .i64 0, .bool false])) (by simp [results, Tryz.results20, go_sem, *]) rfl ?_
      exact ⟨by rw [HF.out], bchain hb1 hb2⟩
    cases zb
    · have HF := hide (HNO (by simp))
      clear HNO HYES
      go_enter Tryz.func20, Tryz.ntmps20
      go_wp2_with fail
      refine hsp'.mono ?_; rintro e w1 ⟨rfl, R1, hb1⟩
      have HR := hide R1
      have c0 := R1.cell (j := 0) rfl
      have c1 := R1.cell (j := 1) rfl
      clear R1
      go_wp2_with fail
      refine (hnm _).mono ?_; rintro e w2 ⟨rfl, hsame⟩; obtain rfl := hsame.symm; clear hsame
      go_wp2_with fail
      refine (hy' _ hb1).mono ?_; rintro e w2 ⟨rfl, hb2⟩
      have c2 := (HR.out.new hb2).cell (j := 2) rfl
      clear c0 c1
      go_wp2_with fail
      refine (hz' _ (bchain hb1 hb2)).mono ?_; rintro e w3 ⟨rfl, hb3⟩
      go_wp2_with fail
      refine bodyPost_ret (v := (.tuple #[.string ⟨#[]⟩, .int .i64 0, .bool false])) (by simp [results, Tryz.results20, go_sem, *]) rfl ?_
      exact ⟨by rw [HF.out], bchain (bchain hb1 hb2) hb3⟩
    · have HF := hide (HYES (by simp))
      clear HNO HYES
      go_enter Tryz.func20, Tryz.ntmps20
      go_wp2_with fail
      refine hsp'.mono ?_; rintro e w1 ⟨rfl, R1, hb1⟩
      have HR := hide R1
      have c0 := R1.cell (j := 0) rfl
      have c1 := R1.cell (j := 1) rfl
      clear R1
      go_wp2_with fail
      refine (hnm _).mono ?_; rintro e w2 ⟨rfl, hsame⟩; obtain rfl := hsame.symm; clear hsame
      go_wp2_with fail
      refine (hy' _ hb1).mono ?_; rintro e w2 ⟨rfl, hb2⟩
      replace HR := hide (HR.out.new hb2)
      have c2 := HR.out.cell (j := 2) rfl
      clear c0 c1
      go_wp2_with fail
      refine (hz' _ (bchain hb1 hb2)).mono ?_; rintro e w3 ⟨rfl, hb3⟩
      have c0 := (HR.out.new hb3).cell (j := 0) rfl
      clear c2
      go_wp2_with fail
      refine (hcl _).mono ?_; rintro e w4 ⟨rfl, hb4⟩
      go_wp2_with fail
      refine bodyPost_ret (v := (.tuple #[.string x, .int .i64 yv, .bool true])) (by simp [results, Tryz.results20, go_sem, *]) rfl ?_
      exact ⟨by rw [HF.out], bchain (bchain (bchain hb1 hb2) hb3) hb4⟩
  · have HF := hide (hno h3)
    have hc2 : P.length ≤ min 3 (s.size + 1) := by omega
    have h3I : ¬ (P.length : Int) = 3 := by omega
    have hl3 : P.length ≤ 3 := by omega
    have hsp' : Calls Tryz.prog 50 #[.string s, .string ⟨#[46]⟩, .int .i64 3] w fun e w' => e = .returned (.slice (some ⟨w.heap.size, 0, none⟩) P.length (min 3 (s.size + 1))) ∧ Below w.heap.size w w' := by
      refine hsp.mono ?_
      rintro e w' ⟨rfl, rfl⟩
      exact ⟨rfl, (Below.refl _ _).alloc (Nat.le_refl _) _⟩
    generalize min 3 (s.size + 1) = c at *
    clear hno hyes hsz hlen hsp ht he
    go_enter Tryz.func20, Tryz.ntmps20
    go_wp2_with fail
    refine hsp'.mono ?_; rintro e w1 ⟨rfl, hb1⟩
    have hne3 : ((P.length : Int) != 3) = true := by simp [h3I]
    go_wp2_with fail
    refine bodyPost_ret (v := (.tuple #[.string ⟨#[]⟩, .int .i64 0, .bool false])) (by simp [results, Tryz.results20, go_sem, *]) rfl ?_
    exact ⟨by rw [HF.out], hb1⟩
set_option maxHeartbeats 2000000 in
theorem implSigned (s key : ByteArray) (now : Int) (w : World) (hs : s.size ≤ 2000000) (hk : key.size ≤ maxLen) (ht : TabV w) (he : ErrV w) : Calls Tryz.prog 21 #[.string s, .string key, .int .i64 now] w fun x w' => x = .returned (.bool (signV s key now)) ∧ Below w.heap.size w w' := by
  have hrd := implReadToken s w hs ht he
  have hqs := read_size s
  obtain ⟨A, hA⟩ : ∃ A, signV s key now = A := ⟨_, rfl⟩
  rw [hA]
  unfold signV at hA
  obtain ⟨⟨n, u, b⟩, hq⟩ : ∃ q, readV s = q := ⟨_, rfl⟩
  rw [hq] at hrd hA hqs
  dsimp only at hrd hA hqs
  have htk := fun w' (hb : Below w.heap.size w w') => implToken n u key w' (by unfold maxLen; omega) hk (ht.new hb)
  obtain ⟨t, hT⟩ : ∃ t, tokV n u key = t := ⟨_, rfl⟩
  rw [hT] at hA htk
  clear hq hT ht he
  cases b
  · have HF : Hid (A = false) := by show A = false; rw [← hA]; rfl
    clear hA
    go_enter Tryz.func21, Tryz.ntmps21
    go_wp2_with fail
    refine hrd.mono ?_; rintro e w1 ⟨rfl, hb1⟩
    go_wp2_with fail
    go_ret
    exact ⟨by rw [HF.out]; rfl, hb1⟩
  by_cases hu : now < u
  · by_cases hst : s = t
    · subst hst
      have HF : Hid (A = true) := by show A = true; rw [← hA]; simp [hu]
      clear hA
      go_enter Tryz.func21, Tryz.ntmps21
      go_wp2_with fail
      refine hrd.mono ?_; rintro e w1 ⟨rfl, hb1⟩
      go_wp2_with fail
      refine (htk _ hb1).mono ?_; rintro e w2 ⟨rfl, hb2⟩
      go_wp2_with fail
      go_ret
      exact ⟨by rw [HF.out]; rfl, bchain hb1 hb2⟩
    · have HF : Hid (A = false) := by show A = false; rw [← hA]; simp [hst]
      have hne := tl_ne hst
      clear hA
      go_enter Tryz.func21, Tryz.ntmps21
      go_wp2_with fail
      refine hrd.mono ?_; rintro e w1 ⟨rfl, hb1⟩
      go_wp2_with fail
      refine (htk _ hb1).mono ?_; rintro e w2 ⟨rfl, hb2⟩
      go_wp2_with fail
      go_ret
      exact ⟨by rw [HF.out]; rfl, bchain hb1 hb2⟩
  · have HF : Hid (A = false) := by show A = false; rw [← hA]; simp [hu]
    clear hA
    go_enter Tryz.func21, Tryz.ntmps21
    go_wp2_with fail
    refine hrd.mono ?_; rintro e w1 ⟨rfl, hb1⟩
    go_wp2_with fail
    go_ret
    exact ⟨by rw [HF.out]; rfl, hb1⟩
end Go.Proofs.YtfemmnhfllbgjaaGreatDoor
