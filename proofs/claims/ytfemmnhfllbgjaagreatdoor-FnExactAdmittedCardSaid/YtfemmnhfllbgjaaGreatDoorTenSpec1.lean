/- Chapter 15's model: when a list of tenants is right. -/
import Derived.Test.YtfemmnhfllbgjaaGreatDoorTenMath
import Derived.Test.YtfemmnhfllbgjaaGreatDoorRowIs
import Derived.Deep.QuietTactic
import Derived.BigQuiet

namespace Go.Proofs.YtfemmnhfllbgjaaGreatDoor
open Go.RowKit
set_option maxRecDepth 100000
set_option linter.unusedSimpArgs false
set_option linter.unusedVariables false
theorem specInB (x lo hi : Int) (w : World) : Calls Tryz.prog 46 #[.int .i64 x, .int .i64 lo, .int .i64 hi] w fun e w' => e = .returned (.bool (inB x lo hi)) ∧ Below w.heap.size w w' := (specIn x lo hi w).mono fun e w' ⟨h1, h2⟩ => ⟨h1, by subst h2; exact Below.refl _ _⟩
theorem tn_not {x : TenantD} {P : Prop} (h1 : okTn x = true → P) (h2 : ¬ P) : okTn x = false := by
  cases e : okTn x
  · rfl
  · exact absurd (h1 e) h2
set_option maxRecDepth 100000 in
set_option maxHeartbeats 4000000 in
theorem specTenantsOk (L : List TenantD) (v : Value) (w : World) (hr : RdR tenantS w v L) : Calls Tryz.prog 16 #[v] w fun x w' => x = .returned (.bool (okTs L)) ∧ Below w.heap.size w w' := by
  obtain ⟨ad, cap, rfl, h1, h2⟩ := hr.form
  obtain ⟨A, hA⟩ : ∃ A, okTs L = A := ⟨_, rfl⟩
  rw [hA]
  have HA := hide hA
  have HR := hide hr
  clear hA hr
  by_cases h8 : (8 : Int) < L.length
  · have HF : Hid (A = false) := by show A = false; rw [← HA.out]; exact ts_false fun c => by omega
    go_enter Tryz.func16, Tryz.ntmps16
    go_wp2_with fail
    go_ret
    exact ⟨by rw [HF.out]; rfl, Below.refl _ _⟩
  go_enter Tryz.func16, Tryz.ntmps16
  go_wp2_with fail
  go_loopw [3, 4, 5] (fun i _ _ wr => ∃ k : Nat, i = .int .i64 (k : Int) ∧ k ≤ L.length ∧ Hid (∀ j, j < k → okTn (tn L j) = true ∧ (j = 0 ∨ leS (tn L j).nm (tn L (j - 1)).nm = false)) ∧ Hid (Below w.heap.size w wr)) (fun i _ _ _ => L.length - (intOf i).toNat)
  case atStart => exact ⟨0, rfl, Nat.zero_le _, fun j h => absurd h (Nat.not_lt_zero _), hide (Below.refl _ _)⟩
  case round =>
    obtain ⟨k, rfl, hk, HC, HB⟩ := hrel
    by_cases hlt : k < L.length
    rotate_left
    · have hltI : ¬ (k : Int) < L.length := by omega
      have HT : Hid (A = true) := by show A = true; rw [← HA.out]; exact okTs_iff.2 ⟨by omega, fun i hi => HC.out i (by omega)⟩
      go_wp2_with fail
      go_ret
      exact ⟨by rw [HT.out]; rfl, HB.out⟩
    have hltI : (k : Int) < L.length := by omega
    obtain ⟨b, o, cs, rfl, hbw, hrd, hc⟩ := (HR.out.new HB.out).at k hlt
    have HE : Hid (tn L k = L[k]) := tn_get hlt
    obtain ⟨x, hx⟩ : ∃ x, L[k] = x := ⟨_, rfl⟩
    rw [hx] at hrd HE
    clear hx
    obtain ⟨vl, rfl, f0, f1, hls⟩ := hrd
    obtain ⟨al, pl, rfl, q1, q2⟩ := hls.form
    have c0 : wr.cell? ⟨b, o + k * 4, none⟩ = some (.string x.nm) := hc 0 _ rfl
    have c1 : wr.cell? ⟨b, o + k * 4 + 1, none⟩ = some (.string x.key) := hc 1 _ rfl
    have c2 : wr.cell? ⟨b, o + k * 4 + 2, none⟩ = some (.slice al x.list.length pl) := hc 2 _ rfl
    have c3 : wr.cell? ⟨b, o + k * 4 + 3, none⟩ = some (.int .i64 x.quota) := hc 3 _ rfl
    have hX : Below wr.heap.size wr (wr.alloc (.cells #[.string x.nm, .string x.key, .slice al x.list.length pl, .int .i64 x.quota] 32)) := (Below.refl _ _).alloc (Nat.le_refl _) _
    have RX := rowIs_new wr 32 [.string x.nm, .string x.key, .slice al x.list.length pl, .int .i64 x.quota]
    have HLS := hide (hls.new hX)
    have HBX := hide (bchain HB.out hX)
    have HRX := hide ((HR.out.new HB.out).new hX)
    go_upto_region 7 with fail
    clear hc hls c0 c1 c2 c3 hbw HB
    generalize hge : wr.heap.size = ge at *
    clear hge
    generalize wr.alloc (.cells #[.string x.nm, .string x.key, .slice al x.list.length pl, .int .i64 x.quota] 32) = X at *
    have x0 := RX.cell (j := 0) rfl
    have x1 := RX.cell (j := 1) rfl
    have x2 := RX.cell (j := 2) rfl
    have x3 := RX.cell (j := 3) rfl
    have xl := RX.lt
    have HRX2 := hide RX
    have qe0 : ∀ y : Later X, y.w.cell? ⟨ge, 0, none⟩ = some (.string x.nm) := fun y => (y.b.cell (p := ⟨ge, 0, none⟩) xl).trans x0
    have qe1 : ∀ y : Later X, y.w.cell? ⟨ge, 1, none⟩ = some (.string x.key) := fun y => (y.b.cell (p := ⟨ge, 1, none⟩) xl).trans x1
    have qe2 : ∀ y : Later X, y.w.cell? ⟨ge, 2, none⟩ = some (.slice al x.list.length pl) := fun y => (y.b.cell (p := ⟨ge, 2, none⟩) xl).trans x2
    have qe3 : ∀ y : Later X, y.w.cell? ⟨ge, 3, none⟩ = some (.int .i64 x.quota) := fun y => (y.b.cell (p := ⟨ge, 3, none⟩) xl).trans x3
    clear x0 x1 x2 x3 RX hX
    have hN := fun w => specName x.nm w (by unfold maxLen; omega)
    have hK := fun w => specInB (x.key.size : Int) 1 40 w
    have hQ := fun w => specInB x.quota 0 20 w
    have HNO : Hid (okTn x = false → A = false) := fun h => by rw [← HA.out]; exact ts_false fun c => by have := (c.2 k hlt).1; rw [HE.out, h] at this; cases this
    cases hi : nameB x.nm
    · rw [hi] at hN
      have HF : Hid (A = false) := HNO.out (tn_not (fun h => (okTn_iff.1 h).1) (by rw [hi]; decide))
      have hne : Nonempty (Later X) := ⟨⟨X, Below.refl _ _⟩⟩; refine region_later (by kernel_rfl) (by kernel_rfl) ?_; repeat (go_big_quiet_step (fail))
      go_big_quiet_want; go_big_quiet_op; refine ⟨.bool false, fun y => later_calls (x := y) (hN y.w), ?_⟩; go_big_quiet_on; repeat (go_big_quiet_step (fail))
      refine wpQuiet_nil ?_; intro _ hw'; obtain ⟨y, hw''⟩ := hw'; subst hw''; have hby := y.b
      go_wp2_with fail
      go_ret
      exact ⟨by rw [HF.out]; rfl, bchain HBX.out hby⟩
    rw [hi] at hN
    cases hk1 : inB (x.key.size : Int) 1 40
    · rw [hk1] at hK
      have HF : Hid (A = false) := HNO.out (tn_not (fun h => (okTn_iff.1 h).2.1) (by rw [hk1]; decide))
      have hne : Nonempty (Later X) := ⟨⟨X, Below.refl _ _⟩⟩; refine region_later (by kernel_rfl) (by kernel_rfl) ?_; repeat (go_big_quiet_step (fail))
      go_big_quiet_want; go_big_quiet_op; refine ⟨.bool true, fun y => later_calls (x := y) (hN y.w), ?_⟩; go_big_quiet_on; repeat (go_big_quiet_step (fail))
      go_big_quiet_want; go_big_quiet_op; refine ⟨.bool false, fun y => later_calls (x := y) (hK y.w), ?_⟩; go_big_quiet_on; repeat (go_big_quiet_step (fail))
      refine wpQuiet_nil ?_; intro _ hw'; obtain ⟨y, hw''⟩ := hw'; subst hw''; have hby := y.b
      go_wp2_with fail
      go_ret
      exact ⟨by rw [HF.out]; rfl, bchain HBX.out hby⟩
    rw [hk1] at hK
    by_cases hl20 : (20 : Int) < x.list.length
    · have HF : Hid (A = false) := HNO.out (tn_not (fun h => (okTn_iff.1 h).2.2.1) (by omega))
      have hne : Nonempty (Later X) := ⟨⟨X, Below.refl _ _⟩⟩; refine region_later (by kernel_rfl) (by kernel_rfl) ?_; repeat (go_big_quiet_step (fail))
      go_big_quiet_want; go_big_quiet_op; refine ⟨.bool true, fun y => later_calls (x := y) (hN y.w), ?_⟩; go_big_quiet_on; repeat (go_big_quiet_step (fail))
      go_big_quiet_want; go_big_quiet_op; refine ⟨.bool true, fun y => later_calls (x := y) (hK y.w), ?_⟩; go_big_quiet_on; repeat (go_big_quiet_step (fail))
      refine wpQuiet_nil ?_; intro _ hw'; obtain ⟨y, hw''⟩ := hw'; subst hw''; have hby := y.b
      go_wp2_with fail
      go_ret
      exact ⟨by rw [HF.out]; rfl, bchain HBX.out hby⟩
    cases hq1 : inB x.quota 0 20
    · rw [hq1] at hQ
      have HF : Hid (A = false) := HNO.out (tn_not (fun h => (okTn_iff.1 h).2.2.2.1) (by rw [hq1]; decide))
      have hne : Nonempty (Later X) := ⟨⟨X, Below.refl _ _⟩⟩; refine region_later (by kernel_rfl) (by kernel_rfl) ?_; repeat (go_big_quiet_step (fail))
      go_big_quiet_want; go_big_quiet_op; refine ⟨.bool true, fun y => later_calls (x := y) (hN y.w), ?_⟩; go_big_quiet_on; repeat (go_big_quiet_step (fail))
      go_big_quiet_want; go_big_quiet_op; refine ⟨.bool true, fun y => later_calls (x := y) (hK y.w), ?_⟩; go_big_quiet_on; repeat (go_big_quiet_step (fail))
      go_big_quiet_want; go_big_quiet_op; refine ⟨.bool false, fun y => later_calls (x := y) (hQ y.w), ?_⟩; go_big_quiet_on; repeat (go_big_quiet_step (fail))
      refine wpQuiet_nil ?_; intro _ hw'; obtain ⟨y, hw''⟩ := hw'; subst hw''; have hby := y.b
      go_wp2_with fail
      go_ret
      exact ⟨by rw [HF.out]; rfl, bchain HBX.out hby⟩
    rw [hq1] at hQ
    cases k with
    | zero =>
      have HLE : Hid ((0 : Nat) = 0 ∨ leS (tn L 0).nm (tn L (0 - 1)).nm = false) := .inl rfl
      have hk0 : decide ((0 : Int) < ((0 : Nat) : Int)) = false := rfl
      have hne : Nonempty (Later X) := ⟨⟨X, Below.refl _ _⟩⟩; refine region_later (by kernel_rfl) (by kernel_rfl) ?_; repeat (go_big_quiet_step (fail))
      go_big_quiet_want; go_big_quiet_op; refine ⟨.bool true, fun y => later_calls (x := y) (hN y.w), ?_⟩; go_big_quiet_on; repeat (go_big_quiet_step (fail))
      go_big_quiet_want; go_big_quiet_op; refine ⟨.bool true, fun y => later_calls (x := y) (hK y.w), ?_⟩; go_big_quiet_on; repeat (go_big_quiet_step (fail))
      go_big_quiet_want; go_big_quiet_op; refine ⟨.bool true, fun y => later_calls (x := y) (hQ y.w), ?_⟩; go_big_quiet_on; repeat (go_big_quiet_step (fail))
      refine wpQuiet_nil ?_; intro _ hw'; obtain ⟨y, hw''⟩ := hw'; subst hw''; have hby := y.b
      have qq2 := qe2 y; have HLS2 := hide (HLS.out.new hby); have HB2 := hide (bchain HBX.out hby); have xl2 := Nat.lt_of_lt_of_le xl hby.size; clear qe0 qe1 qe2 qe3 hne HLS HBX; (try clear qp0); go_wp2_with fail; go_loop [5] (fun i => ∃ q : Nat, i = .int .i64 (q : Int) ∧ q ≤ x.list.length ∧ Hid (∀ s ∈ x.list.take q, s.size ≤ 60)) (fun i => x.list.length - (intOf i).toNat)
      case atStart => exact ⟨0, rfl, Nat.zero_le _, by show ∀ s ∈ x.list.take 0, _; simp⟩
      case round =>
        obtain ⟨q, rfl, hq, H60⟩ := hrel
        by_cases hqs : q < x.list.length
        · have hqI : (q : Int) < x.list.length := by omega
          obtain ⟨b9, o9, rfl, hb9, cx, hsx⟩ := strs_at HLS2.out hqs
          obtain ⟨s, hs⟩ : ∃ s, x.list[q] = s := ⟨_, rfl⟩
          rw [hs] at cx hsx
          by_cases hs60 : (60 : Int) < s.size
          · have HF : Hid (A = false) := HNO.out (tn_not (fun h => (okTn_iff.1 h).2.2.2.2 s (by rw [← hs]; exact List.getElem_mem hqs)) (by omega))
            clear hs
            go_wp2_with fail
            go_ret
            exact ⟨by rw [HF.out]; rfl, HB2.out⟩
          · have H602 : Hid (∀ z ∈ x.list.take (q + 1), z.size ≤ 60) := by
              show ∀ z ∈ _, _
              intro z hz
              rw [List.take_add_one, List.getElem?_eq_getElem hqs, hs] at hz
              rcases List.mem_append.1 hz with h | h
              · exact H60.out z h
              · simp at h; subst h; omega
            clear hs
            go_wp2_with fail
            go_round
            case rel => exact ⟨q + 1, by go_num, by omega, H602⟩
            case measure => simp [intOf]; omega
        · have hqI : ¬ (q : Int) < x.list.length := by omega
          have HOKX : Hid (okTn x = true) := okTn_iff.2 ⟨hi, hk1, by omega, hq1, fun s hs => H60.out s (by rw [List.take_of_length_le (by omega)]; exact hs)⟩
          have HC2 : Hid (∀ j, j < 0 + 1 → okTn (tn L j) = true ∧ (j = 0 ∨ leS (tn L j).nm (tn L (j - 1)).nm = false)) := fun j hj => by
            by_cases ej : j = 0
            · subst ej; exact ⟨by rw [HE.out]; exact HOKX.out, by first | exact HLE.out | exact .inl rfl⟩
            · exact HC.out j (by omega)
          go_wp2_with fail
          go_roundw
          case rel => exact ⟨0 + 1, by go_num, by omega, HC2, HB2⟩
          case measure => simp [intOf]; omega
    | succ m =>
      have hm : m < L.length := by omega
      obtain ⟨b2, o2, cs2, hbo, hbw2, hrd2, hc2⟩ := HRX.out.at m hm
      simp only [Option.some.injEq, Addr.mk.injEq] at hbo
      obtain ⟨rfl, rfl, -⟩ := hbo
      obtain ⟨vl2, rfl, _, _, _⟩ := hrd2
      have hp0 : X.cell? ⟨b, o + m * 4, none⟩ = some (.string (L[m]'hm).nm) := hc2 0 _ rfl
      clear hc2
      have HPE : Hid (tn L m = L[m]) := tn_get hm
      obtain ⟨pn, hpn⟩ : ∃ pn, (L[m]'hm).nm = pn := ⟨_, rfl⟩
      rw [hpn] at hp0
      have HPN : Hid ((tn L m).nm = pn) := by show _ = pn; rw [HPE.out, hpn]
      clear hpn HPE
      have qp0 : ∀ y : Later X, y.w.cell? ⟨b, o + m * 4, none⟩ = some (.string pn) := fun y => (y.b.cell (p := ⟨b, o + m * 4, none⟩) hbw2).trans hp0
      clear hp0
      have hm1 : (((m + 1 : Nat) : Int) - 1) = (m : Int) := by omega
      have hm0 : (0 : Int) < ((m + 1 : Nat) : Int) := by omega
      cases hle : leS x.nm pn
      rotate_left
      · have HF : Hid (A = false) := by
          show A = false
          rw [← HA.out]
          refine ts_false fun c => ?_
          rcases (c.2 (m + 1) hlt).2 with h | h
          · omega
          · rw [HE.out] at h
            simp only [Nat.add_sub_cancel] at h
            rw [HPN.out, hle] at h
            cases h
        unfold leS at hle
        have hne : Nonempty (Later X) := ⟨⟨X, Below.refl _ _⟩⟩; refine region_later (by kernel_rfl) (by kernel_rfl) ?_; repeat (go_big_quiet_step (fail))
        go_big_quiet_want; go_big_quiet_op; refine ⟨.bool true, fun y => later_calls (x := y) (hN y.w), ?_⟩; go_big_quiet_on; repeat (go_big_quiet_step (fail))
        go_big_quiet_want; go_big_quiet_op; refine ⟨.bool true, fun y => later_calls (x := y) (hK y.w), ?_⟩; go_big_quiet_on; repeat (go_big_quiet_step (fail))
        go_big_quiet_want; go_big_quiet_op; refine ⟨.bool true, fun y => later_calls (x := y) (hQ y.w), ?_⟩; go_big_quiet_on; repeat (go_big_quiet_step (fail))
        refine wpQuiet_nil ?_; intro _ hw'; obtain ⟨y, hw''⟩ := hw'; subst hw''; have hby := y.b
        go_wp2_with fail
        go_ret
        exact ⟨by rw [HF.out]; rfl, bchain HBX.out hby⟩
      have HLE : Hid (m + 1 = 0 ∨ leS (tn L (m + 1)).nm (tn L (m + 1 - 1)).nm = false) := .inr (by rw [HE.out]; simp only [Nat.add_sub_cancel]; rw [HPN.out]; exact hle)
      unfold leS at hle
      have hne : Nonempty (Later X) := ⟨⟨X, Below.refl _ _⟩⟩; refine region_later (by kernel_rfl) (by kernel_rfl) ?_; repeat (go_big_quiet_step (fail))
      go_big_quiet_want; go_big_quiet_op; refine ⟨.bool true, fun y => later_calls (x := y) (hN y.w), ?_⟩; go_big_quiet_on; repeat (go_big_quiet_step (fail))
      go_big_quiet_want; go_big_quiet_op; refine ⟨.bool true, fun y => later_calls (x := y) (hK y.w), ?_⟩; go_big_quiet_on; repeat (go_big_quiet_step (fail))
      go_big_quiet_want; go_big_quiet_op; refine ⟨.bool true, fun y => later_calls (x := y) (hQ y.w), ?_⟩; go_big_quiet_on; repeat (go_big_quiet_step (fail))
      refine wpQuiet_nil ?_; intro _ hw'; obtain ⟨y, hw''⟩ := hw'; subst hw''; have hby := y.b
      clear hle
      have qq2 := qe2 y; have HLS2 := hide (HLS.out.new hby); have HB2 := hide (bchain HBX.out hby); have xl2 := Nat.lt_of_lt_of_le xl hby.size; clear qe0 qe1 qe2 qe3 hne HLS HBX; (try clear qp0); go_wp2_with fail; go_loop [5] (fun i => ∃ q : Nat, i = .int .i64 (q : Int) ∧ q ≤ x.list.length ∧ Hid (∀ s ∈ x.list.take q, s.size ≤ 60)) (fun i => x.list.length - (intOf i).toNat)
      case atStart => exact ⟨0, rfl, Nat.zero_le _, by show ∀ s ∈ x.list.take 0, _; simp⟩
      case round =>
        obtain ⟨q, rfl, hq, H60⟩ := hrel
        by_cases hqs : q < x.list.length
        · have hqI : (q : Int) < x.list.length := by omega
          obtain ⟨b9, o9, rfl, hb9, cx, hsx⟩ := strs_at HLS2.out hqs
          obtain ⟨s, hs⟩ : ∃ s, x.list[q] = s := ⟨_, rfl⟩
          rw [hs] at cx hsx
          by_cases hs60 : (60 : Int) < s.size
          · have HF : Hid (A = false) := HNO.out (tn_not (fun h => (okTn_iff.1 h).2.2.2.2 s (by rw [← hs]; exact List.getElem_mem hqs)) (by omega))
            clear hs
            go_wp2_with fail
            go_ret
            exact ⟨by rw [HF.out]; rfl, HB2.out⟩
          · have H602 : Hid (∀ z ∈ x.list.take (q + 1), z.size ≤ 60) := by
              show ∀ z ∈ _, _
              intro z hz
              rw [List.take_add_one, List.getElem?_eq_getElem hqs, hs] at hz
              rcases List.mem_append.1 hz with h | h
              · exact H60.out z h
              · simp at h; subst h; omega
            clear hs
            go_wp2_with fail
            go_round
            case rel => exact ⟨q + 1, by go_num, by omega, H602⟩
            case measure => simp [intOf]; omega
        · have hqI : ¬ (q : Int) < x.list.length := by omega
          have HOKX : Hid (okTn x = true) := okTn_iff.2 ⟨hi, hk1, by omega, hq1, fun s hs => H60.out s (by rw [List.take_of_length_le (by omega)]; exact hs)⟩
          have HC2 : Hid (∀ j, j < (m + 1) + 1 → okTn (tn L j) = true ∧ (j = 0 ∨ leS (tn L j).nm (tn L (j - 1)).nm = false)) := fun j hj => by
            by_cases ej : j = (m + 1)
            · subst ej; exact ⟨by rw [HE.out]; exact HOKX.out, by first | exact HLE.out | exact .inl rfl⟩
            · exact HC.out j (by omega)
          go_wp2_with fail
          go_roundw
          case rel => exact ⟨(m + 1) + 1, by go_num, by omega, HC2, HB2⟩
          case measure => simp [intOf]; omega
end Go.Proofs.YtfemmnhfllbgjaaGreatDoor
