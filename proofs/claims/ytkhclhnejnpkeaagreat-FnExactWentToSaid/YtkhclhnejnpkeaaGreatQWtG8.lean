/- Several small texts of one level, one behind the other. -/
import Derived.Test.YtkhclhnejnpkeaaGreatQWtG7
import Derived.Test.YtkhclhnejnpkeaaGreatQWtG2
import Derived.Test.YtkhclhnejnpkeaaGreatQWtG3
import Derived.Deep.DeepCutAuto
import Derived.Deep.QuietTactic
import Derived.BigQuiet
/- Chapter 10's model, what it asks: odd numbers, how many live, where one is, RegistryOk, StateOf, Live. -/
namespace Go.Proofs.YtkhclhnejnpkeaaGreat
open Go.RowKit
set_option maxRecDepth 100000
set_option linter.unusedSimpArgs false
set_option linter.unusedVariables false
def ev (L : List EntryD) : List Value := L.flatMap EntryD.cs
theorem ev_one (L : List EntryD) : ∀ u ∈ ev L, u.oneCell' = true := by
  intro u hu
  obtain ⟨f, _, hf⟩ := List.mem_flatMap.1 hu
  simp only [EntryD.cs, List.mem_cons, List.not_mem_nil, or_false] at hf
  rcases hf with rfl | rfl <;> rfl
theorem ev_app (A B : List EntryD) : ev (A ++ B) = ev A ++ ev B := by simp [ev]
theorem specId (x : Int) (w : World) : Calls Tryz.prog 98 #[.int .i64 x] w fun e w' => e = .returned (.bool (idB x)) ∧ w' = w := by
  cases h : inB x 1 100000
  · have hv : idB x = false := by unfold idB; refine decide_eq_false fun c => ?_; exact inB_false h ⟨c.1, c.2.1⟩
    rw [hv]
    go_enter Tryz.func98, Tryz.ntmps98
    go_wp2_with fail
    refine (specIn _ _ _ _).mono ?_; rw [h]; rintro e w1 ⟨rfl, hsame⟩; obtain rfl := hsame.symm; clear hsame
    go_wp2_with fail
    go_ret
    exact ⟨rfl, rfl⟩
  · obtain ⟨h0, h1⟩ := inB_true h
    have ht : x.tmod 2 = x % 2 := Int.tmod_eq_emod_of_nonneg (by omega)
    have hv : idB x = decide (x % 2 = 1) := by unfold idB; congr 1; exact propext ⟨fun c => c.2.2, fun c => ⟨h0, h1, c⟩⟩
    rw [hv]
    go_enter Tryz.func98, Tryz.ntmps98
    go_wp2_with fail
    refine (specIn _ _ _ _).mono ?_; rw [h]; rintro e w1 ⟨rfl, hsame⟩; obtain rfl := hsame.symm; clear hsame
    go_wp2_with fail
    go_ret
    exact ⟨by rfl, rfl⟩

theorem ok_false {d : RegistryD} (h : ¬ ((0 ≤ d.lim ∧ d.lim ≤ 20) ∧ (d.top = 0 ∨ idB d.top = true) ∧ d.es.length ≤ 60 ∧ (∀ i (h : i < d.es.length), entOk d.top d.es[i] = true ∧ (0 < i → (d.es[i - 1]'(by omega)).id < d.es[i].id)) ∧ liveL d.es ≤ d.lim)) : okRg d = false := by
  cases hq : okRg d
  · rfl
  · exact absurd (okRg_iff.1 hq) h
set_option maxHeartbeats 4000000 in
theorem specRegistryOk (d : RegistryD) (v : Value) (w : World) (hr : RdR entryS w v d.es) : Calls Tryz.prog 62 #[.agg #[.int .i64 d.lim, .int .i64 d.top, v]] w fun x w' => x = .returned (.bool (okRg d)) ∧ Below w.heap.size w w' := by
  obtain ⟨ad, cap, rfl, h1, h2⟩ := hr.form
  have HR := hide hr
  clear hr
  obtain ⟨A, hA⟩ : ∃ A, okRg d = A := ⟨_, rfl⟩
  rw [hA]
  have HA := hide hA
  clear hA
  cases hlim : inB d.lim 0 20
  · have HF : Hid (A = false) := by show A = false; rw [← HA.out]; exact ok_false fun c => inB_false hlim c.1
    go_enter Tryz.func62, Tryz.ntmps62; go_wp2_with fail; refine (specIn _ _ _ _).mono ?_; rw [hlim]; rintro e w1 ⟨rfl, hsame⟩; obtain rfl := hsame.symm; clear hsame; go_wp2_with fail
    go_ret
    exact ⟨by rw [HF.out]; rfl, (by repeat' (first | (with_reducible exact Below.refl _ _) | (with_reducible refine Below.drew ?_) | (with_reducible refine bo_drewN _ ?_) | (with_reducible refine bo_alloc ?_ _) | (refine bchain ?_ (by with_reducible assumption)) | (with_reducible refine Below.setCell ?_ ?_ _) | go_size))⟩
  have htc : (d.top = 0 ∧ (d.top != 0) = false) ∨ ((d.top != 0) = true ∧ idB d.top = false) ∨ ((d.top != 0) = true ∧ idB d.top = true) := by
    by_cases h : d.top = 0
    · exact .inl ⟨h, by simp [h]⟩
    · cases hq : idB d.top
      · exact .inr (.inl ⟨by simpa using h, rfl⟩)
      · exact .inr (.inr ⟨by simpa using h, rfl⟩)
  have hid := fun w => specId d.top w
  rcases htc with ⟨ht0, ht1⟩ | ⟨ht1, ht2⟩ | ⟨ht1, ht2⟩
  · have HT0 := hide ht0
    clear ht0
    go_enter Tryz.func62, Tryz.ntmps62
    go_wp2_with fail
    refine (specIn _ _ _ _).mono ?_; rw [hlim]; rintro e w1 ⟨rfl, hsame⟩; obtain rfl := hsame.symm; clear hsame
    by_cases h60 : (60 : Int) < d.es.length
    · have HF : Hid (A = false) := by show A = false; rw [← HA.out]; exact ok_false fun c => by have := c.2.2.1; omega
      go_wp2_with fail
      go_ret
      exact ⟨by rw [HF.out]; rfl, (by repeat' (first | (with_reducible exact Below.refl _ _) | (with_reducible refine Below.drew ?_) | (with_reducible refine bo_drewN _ ?_) | (with_reducible refine bo_alloc ?_ _) | (refine bchain ?_ (by with_reducible assumption)) | (with_reducible refine Below.setCell ?_ ?_ _) | go_size))⟩
    have HTOP : Hid (d.top = 0 ∨ idB d.top = true) := .inl HT0.out
    have HLIM := hide (inB_true hlim)
    clear hid
    have hbx : Below w.heap.size w (w.alloc (.cells #[.int .i64 d.lim, .int .i64 d.top, .slice ad d.es.length cap] 57)) := (Below.refl _ _).alloc (Nat.le_refl _) _
    have HX : Hid (RowIs (w.alloc (.cells #[.int .i64 d.lim, .int .i64 d.top, .slice ad d.es.length cap] 57)) w.heap.size 57 [.int .i64 d.lim, .int .i64 d.top, .slice ad d.es.length cap]) := rowIs_new w 57 [.int .i64 d.lim, .int .i64 d.top, .slice ad d.es.length cap]
    go_wp2_with fail
    go_loopw [3, 4] (fun n i wr => ∃ (k : Nat), i = .int .i64 k ∧ k ≤ d.es.length ∧ n = .int .i64 (liveL (d.es.take k)) ∧ Hid (∀ j (hj : j < d.es.length), j < k → entOk d.top d.es[j] = true ∧ (0 < j → (d.es[j - 1]'(by omega)).id < d.es[j].id)) ∧ Hid (RowIs wr w.heap.size 57 [.int .i64 d.lim, .int .i64 d.top, .slice ad d.es.length cap]) ∧ Hid (Below w.heap.size w wr)) (fun _ i _ => d.es.length - (intOf i).toNat)
    case atStart => exact ⟨0, rfl, Nat.zero_le _, rfl, fun j _ hj => absurd hj (Nat.not_lt_zero _), HX, hbx⟩
    case round =>
      clear HX hbx
      obtain ⟨k, rfl, hk, rfl, HC, HX, HB⟩ := hrel
      by_cases hlt : k < d.es.length
      · obtain ⟨b, o, cs, rfl, hbw, rfl, hc⟩ := (HR.out.new HB.out).at k hlt
        have c0 : wr.cell? ⟨b, o + k * 2, none⟩ = some (.int .i64 d.es[k].id) := hc 0 _ rfl
        have c1 : wr.cell? ⟨b, o + k * 2 + 1, none⟩ = some (.int .i64 d.es[k].state) := hc 1 _ rfl
        clear hc
        have x2 := HX.out.cell (j := 2) rfl
        have hlX := HX.out.lt
        have hlk := sum_take lv1 d.es k hlt
        have hll := live_le (d.es.take k)
        have hln := live_nn (d.es.take k)
        have hlk2 : (d.es.take k).length ≤ k := by rw [List.length_take]; omega
        have HLV : Hid (liveL (d.es.take (k + 1)) = liveL (d.es.take k) + lv1 d.es[k]) := hlk
        generalize liveL (d.es.take k) = q at *
        obtain ⟨e, he⟩ : ∃ e, d.es[k] = e := ⟨_, rfl⟩
        rw [he] at c0 c1
        have HE := hide he
        clear he hlk
        go_upto_region 8 with fail
        have hbe : Below wr.heap.size wr (wr.alloc (.cells #[.int .i64 e.id, .int .i64 e.state] 127)) := (Below.refl _ _).alloc (Nat.le_refl _) _
        have hre : RowIs (wr.alloc (.cells #[.int .i64 e.id, .int .i64 e.state] 127)) wr.heap.size 127 [.int .i64 e.id, .int .i64 e.state] := rowIs_new wr 127 [.int .i64 e.id, .int .i64 e.state]
        generalize wr.alloc (.cells #[.int .i64 e.id, .int .i64 e.state] 127) = X at *
        replace HX := hide (HX.out.new hbe)
        replace HB := hide (bchain HB.out hbe)
        have hre0 := hre.cell (j := 0) rfl
        have hre1 := hre.cell (j := 1) rfl
        have hlE := hre.lt
        have hx1 := HX.out.cell (j := 1) rfl
        have hx2 := HX.out.cell (j := 2) rfl
        have hlX2 := HX.out.lt
        generalize wr.heap.size = ge at *
        have qe0 : ∀ y : Later X, y.w.cell? ⟨ge, 0, none⟩ = some (.int .i64 e.id) := fun y => (y.b.cell (p := ⟨ge, 0, none⟩) hlE).trans hre0
        have qe1 : ∀ y : Later X, y.w.cell? ⟨ge, 1, none⟩ = some (.int .i64 e.state) := fun y => (y.b.cell (p := ⟨ge, 1, none⟩) hlE).trans hre1
        have qx1 : ∀ y : Later X, y.w.cell? ⟨w.heap.size, 1, none⟩ = some (.int .i64 d.top) := fun y => (y.b.cell (p := ⟨w.heap.size, 1, none⟩) hlX2).trans hx1
        have qx2 : ∀ y : Later X, y.w.cell? ⟨w.heap.size, 2, none⟩ = some (.slice (some ⟨b, o, none⟩) d.es.length cap) := fun y => (y.b.cell (p := ⟨w.heap.size, 2, none⟩) hlX2).trans hx2
        clear c0 c1 x2 hlX hbe hre hre0 hre1 hx1 hx2
        have hI := fun w => specId e.id w
        have hS := fun w => specIn e.state 1 4 w
        cases hi : idB e.id
        · rw [hi] at hI
          have HF : Hid (A = false) := by
            show A = false
            rw [← HA.out]
            refine ok_false fun c => ?_
            have hck := c.2.2.2.1 k hlt
            rw [HE.out] at hck
            have hek := entOk_iff.1 hck.1
            rw [hi] at hek; simp at hek
          have hne : Nonempty (Later X) := ⟨⟨X, Below.refl _ _⟩⟩; refine region_later (by kernel_rfl) (by kernel_rfl) ?_
          repeat (go_big_quiet_step (fail))
          go_big_quiet_want; go_big_quiet_op; refine ⟨.bool false, fun y => later_same (x := y) (hI y.w), ?_⟩; go_big_quiet_on
          repeat (go_big_quiet_step (fail))
          refine wpQuiet_nil ?_; intro _ hw'; obtain ⟨y, hw''⟩ := hw'; subst hw''; have hby := y.b
          go_wp2_with fail
          go_ret
          exact ⟨by rw [HF.out]; rfl, bchain HB.out hby⟩
        rw [hi] at hI
        by_cases htp : d.top < e.id
        · have HF : Hid (A = false) := by
            show A = false
            rw [← HA.out]
            refine ok_false fun c => ?_
            have hck := c.2.2.2.1 k hlt
            rw [HE.out] at hck
            have hek := entOk_iff.1 hck.1
            omega
          have hne : Nonempty (Later X) := ⟨⟨X, Below.refl _ _⟩⟩; refine region_later (by kernel_rfl) (by kernel_rfl) ?_
          repeat (go_big_quiet_step (fail))
          go_big_quiet_want; go_big_quiet_op; refine ⟨.bool true, fun y => later_same (x := y) (hI y.w), ?_⟩; go_big_quiet_on
          repeat (go_big_quiet_step (fail))
          refine wpQuiet_nil ?_; intro _ hw'; obtain ⟨y, hw''⟩ := hw'; subst hw''; have hby := y.b
          go_wp2_with fail
          go_ret
          exact ⟨by rw [HF.out]; rfl, bchain HB.out hby⟩
        cases hs : inB e.state 1 4
        · rw [hs] at hS
          have HF : Hid (A = false) := by
            show A = false
            rw [← HA.out]
            refine ok_false fun c => ?_
            have hck := c.2.2.2.1 k hlt
            rw [HE.out] at hck
            have hek := entOk_iff.1 hck.1
            exact inB_false hs hek.2.2
          have hne : Nonempty (Later X) := ⟨⟨X, Below.refl _ _⟩⟩; refine region_later (by kernel_rfl) (by kernel_rfl) ?_
          repeat (go_big_quiet_step (fail))
          go_big_quiet_want; go_big_quiet_op; refine ⟨.bool true, fun y => later_same (x := y) (hI y.w), ?_⟩; go_big_quiet_on
          repeat (go_big_quiet_step (fail))
          go_big_quiet_want; go_big_quiet_op; refine ⟨.bool false, fun y => later_same (x := y) (hS y.w), ?_⟩; go_big_quiet_on
          repeat (go_big_quiet_step (fail))
          refine wpQuiet_nil ?_; intro _ hw'; obtain ⟨y, hw''⟩ := hw'; subst hw''; have hby := y.b
          go_wp2_with fail
          go_ret
          exact ⟨by rw [HF.out]; rfl, bchain HB.out hby⟩
        rw [hs] at hS
        have HEK : Hid (entOk d.top d.es[k] = true) := by show _ = true; rw [HE.out]; exact entOk_iff.2 ⟨hi, by omega, inB_true hs⟩
        cases k with
        | zero =>
          have hk0 : decide ((0 : Int) < ((0 : Nat) : Int)) = false := rfl
          have hne : Nonempty (Later X) := ⟨⟨X, Below.refl _ _⟩⟩; refine region_later (by kernel_rfl) (by kernel_rfl) ?_
          repeat (go_big_quiet_step (fail))
          go_big_quiet_want; go_big_quiet_op; refine ⟨.bool true, fun y => later_same (x := y) (hI y.w), ?_⟩; go_big_quiet_on
          repeat (go_big_quiet_step (fail))
          go_big_quiet_want; go_big_quiet_op; refine ⟨.bool true, fun y => later_same (x := y) (hS y.w), ?_⟩; go_big_quiet_on
          repeat (go_big_quiet_step (fail))
          refine wpQuiet_nil ?_; intro _ hw'; obtain ⟨y, hw''⟩ := hw'; subst hw''; have hby := y.b
          have HC2 : Hid (∀ j (hj : j < d.es.length), j < 0 + 1 → entOk d.top d.es[j] = true ∧ (0 < j → (d.es[j - 1]'(by omega)).id < d.es[j].id)) := fun j hj hjk => by
            by_cases ej : j = 0
            · subst ej; exact ⟨HEK.out, fun h => absurd h (Nat.lt_irrefl _)⟩
            · exact HC.out j hj (by omega)
          have qq1 := qe1 y
          have HX2 := hide (HX.out.new hby)
          have HB2 := hide (bchain HB.out hby)
          have hlE2 := Nat.lt_of_lt_of_le hlE hby.size
          clear qe0 qe1 qx1 qx2 hne
          by_cases h4 : e.state = 4
          · have H4 : Hid (lv1 d.es[0] = 0) := by show lv1 _ = 0; unfold lv1; rw [HE.out, if_pos h4]
            have h4' : (e.state != 4) = false := by simp [h4]
            clear h4
            go_wp2_with fail
            go_roundw
            case rel => exact ⟨0 + 1, by go_num, by omega, int_eq (by have := HLV.out; have := H4.out; omega), HC2, HX2, HB2⟩
            case measure => simp [intOf]; omega
          · have H4 : Hid (lv1 d.es[0] = 1) := by show lv1 _ = 1; unfold lv1; rw [HE.out, if_neg h4]
            have h4' : (e.state != 4) = true := by simpa using h4
            clear h4
            go_wp2_with fail
            go_roundw
            case rel => exact ⟨0 + 1, by go_num, by omega, int_eq (by have := HLV.out; have := H4.out; omega), HC2, HX2, HB2⟩
            case measure => simp [intOf]; omega
        | succ k =>
          have hkp : decide ((0 : Int) < ((k + 1 : Nat) : Int)) = true := decide_eq_true (by omega)
          obtain ⟨b', o', cs', hbo, hbw', rfl, hc'⟩ := (HR.out.new HB.out).at k (by omega)
          simp only [Option.some.injEq, Addr.mk.injEq] at hbo
          obtain ⟨rfl, rfl, -⟩ := hbo
          have hp0 : X.cell? ⟨b, o + k * 2, none⟩ = some (.int .i64 (d.es[k]'(by omega)).id) := hc' 0 _ rfl
          clear hc'
          obtain ⟨pe, hpe⟩ : ∃ pe, (d.es[k]'(by omega)).id = pe := ⟨_, rfl⟩
          rw [hpe] at hp0
          have HPE := hide hpe
          clear hpe
          have qp0 : ∀ y : Later X, y.w.cell? ⟨b, o + k * 2, none⟩ = some (.int .i64 pe) := fun y => (y.b.cell (p := ⟨b, o + k * 2, none⟩) hbw').trans hp0
          clear hp0
          by_cases hpr : e.id ≤ pe
          · have HF : Hid (A = false) := by
              show A = false
              rw [← HA.out]
              refine ok_false fun c => ?_
              have hck := c.2.2.2.1 (k + 1) hlt
              rw [HE.out] at hck
              have hek := entOk_iff.1 hck.1
              have h3 := hck.2 (by omega)
              simp only [Nat.add_sub_cancel] at h3
              rw [HPE.out] at h3
              omega
            have hne : Nonempty (Later X) := ⟨⟨X, Below.refl _ _⟩⟩; refine region_later (by kernel_rfl) (by kernel_rfl) ?_
            repeat (go_big_quiet_step (fail))
            go_big_quiet_want; go_big_quiet_op; refine ⟨.bool true, fun y => later_same (x := y) (hI y.w), ?_⟩; go_big_quiet_on
            repeat (go_big_quiet_step (fail))
            go_big_quiet_want; go_big_quiet_op; refine ⟨.bool true, fun y => later_same (x := y) (hS y.w), ?_⟩; go_big_quiet_on
            repeat (go_big_quiet_step (fail))
            refine wpQuiet_nil ?_; intro _ hw'; obtain ⟨y, hw''⟩ := hw'; subst hw''; have hby := y.b
            go_wp2_with fail
            go_ret
            exact ⟨by rw [HF.out]; rfl, bchain HB.out hby⟩
          · have hne : Nonempty (Later X) := ⟨⟨X, Below.refl _ _⟩⟩; refine region_later (by kernel_rfl) (by kernel_rfl) ?_
            repeat (go_big_quiet_step (fail))
            go_big_quiet_want; go_big_quiet_op; refine ⟨.bool true, fun y => later_same (x := y) (hI y.w), ?_⟩; go_big_quiet_on
            repeat (go_big_quiet_step (fail))
            go_big_quiet_want; go_big_quiet_op; refine ⟨.bool true, fun y => later_same (x := y) (hS y.w), ?_⟩; go_big_quiet_on
            repeat (go_big_quiet_step (fail))
            refine wpQuiet_nil ?_; intro _ hw'; obtain ⟨y, hw''⟩ := hw'; subst hw''; have hby := y.b
            have HC2 : Hid (∀ j (hj : j < d.es.length), j < k + 1 + 1 → entOk d.top d.es[j] = true ∧ (0 < j → (d.es[j - 1]'(by omega)).id < d.es[j].id)) := fun j hj hjk => by
              by_cases ej : j = k + 1
              · subst ej; exact ⟨HEK.out, fun h => by have h3 := HPE.out; have h4 := HE.out; simp only [Nat.add_sub_cancel]; rw [h3, h4]; omega⟩
              · exact HC.out j hj (by omega)
            have qq1 := qe1 y
            have HX2 := hide (HX.out.new hby)
            have HB2 := hide (bchain HB.out hby)
            have hlE2 := Nat.lt_of_lt_of_le hlE hby.size
            clear qe0 qe1 qx1 qx2 qp0 hne
            by_cases h4 : e.state = 4
            · have H4 : Hid (lv1 d.es[k + 1] = 0) := by show lv1 _ = 0; unfold lv1; rw [HE.out, if_pos h4]
              have h4' : (e.state != 4) = false := by simp [h4]
              clear h4
              go_wp2_with fail
              go_roundw
              case rel => exact ⟨k + 1 + 1, by go_num, by omega, int_eq (by have := HLV.out; have := H4.out; omega), HC2, HX2, HB2⟩
              case measure => simp [intOf]; omega
            · have H4 : Hid (lv1 d.es[k + 1] = 1) := by show lv1 _ = 1; unfold lv1; rw [HE.out, if_neg h4]
              have h4' : (e.state != 4) = true := by simpa using h4
              clear h4
              go_wp2_with fail
              go_roundw
              case rel => exact ⟨k + 1 + 1, by go_num, by omega, int_eq (by have := HLV.out; have := H4.out; omega), HC2, HX2, HB2⟩
              case measure => simp [intOf]; omega
      · obtain rfl : k = d.es.length := by omega
        rw [List.take_length]
        have x0 := HX.out.cell (j := 0) rfl
        have x2 := HX.out.cell (j := 2) rfl
        have hlX := HX.out.lt
        have HOK : Hid (A = decide (liveL d.es ≤ d.lim)) := by
          show A = _
          rw [← HA.out]
          by_cases hl : liveL d.es ≤ d.lim
          · rw [decide_eq_true hl]; exact okRg_iff.2 ⟨HLIM.out, HTOP.out, by omega, fun j hj => HC.out j hj hj, hl⟩
          · rw [decide_eq_false hl]; exact ok_false fun c => hl c.2.2.2.2
        go_wp2_with fail
        go_ret
        exact ⟨by rw [HOK.out]; rfl, HB.out⟩
  · have HF : Hid (A = false) := by show A = false; rw [← HA.out]; exact ok_false fun c => c.2.1.elim (fun h => by simp [h] at ht1) (fun h => by rw [ht2] at h; cases h)
    rw [ht2] at hid
    go_enter Tryz.func62, Tryz.ntmps62; go_wp2_with fail; refine (specIn _ _ _ _).mono ?_; rw [hlim]; rintro e w1 ⟨rfl, hsame⟩; obtain rfl := hsame.symm; clear hsame; go_wp2_with fail
    refine (hid _).mono ?_; rintro e w2 ⟨rfl, hsame⟩; obtain rfl := hsame.symm; clear hsame
    go_wp2_with fail
    go_ret
    exact ⟨by rw [HF.out]; rfl, (by repeat' (first | (with_reducible exact Below.refl _ _) | (with_reducible refine Below.drew ?_) | (with_reducible refine bo_drewN _ ?_) | (with_reducible refine bo_alloc ?_ _) | (refine bchain ?_ (by with_reducible assumption)) | (with_reducible refine Below.setCell ?_ ?_ _) | go_size))⟩
  · rw [ht2] at hid
    go_enter Tryz.func62, Tryz.ntmps62; go_wp2_with fail; refine (specIn _ _ _ _).mono ?_; rw [hlim]; rintro e w1 ⟨rfl, hsame⟩; obtain rfl := hsame.symm; clear hsame; go_wp2_with fail
    refine (hid _).mono ?_; rintro e w2 ⟨rfl, hsame⟩; obtain rfl := hsame.symm; clear hsame
    by_cases h60 : (60 : Int) < d.es.length
    · have HF : Hid (A = false) := by show A = false; rw [← HA.out]; exact ok_false fun c => by have := c.2.2.1; omega
      go_wp2_with fail
      go_ret
      exact ⟨by rw [HF.out]; rfl, (by repeat' (first | (with_reducible exact Below.refl _ _) | (with_reducible refine Below.drew ?_) | (with_reducible refine bo_drewN _ ?_) | (with_reducible refine bo_alloc ?_ _) | (refine bchain ?_ (by with_reducible assumption)) | (with_reducible refine Below.setCell ?_ ?_ _) | go_size))⟩
    have HTOP : Hid (d.top = 0 ∨ idB d.top = true) := .inr ht2
    have HLIM := hide (inB_true hlim)
    clear hid
    have hbx : Below w.heap.size w (w.alloc (.cells #[.int .i64 d.lim, .int .i64 d.top, .slice ad d.es.length cap] 57)) := (Below.refl _ _).alloc (Nat.le_refl _) _
    have HX : Hid (RowIs (w.alloc (.cells #[.int .i64 d.lim, .int .i64 d.top, .slice ad d.es.length cap] 57)) w.heap.size 57 [.int .i64 d.lim, .int .i64 d.top, .slice ad d.es.length cap]) := rowIs_new w 57 [.int .i64 d.lim, .int .i64 d.top, .slice ad d.es.length cap]
    go_wp2_with fail
    go_loopw [3, 4] (fun n i wr => ∃ (k : Nat), i = .int .i64 k ∧ k ≤ d.es.length ∧ n = .int .i64 (liveL (d.es.take k)) ∧ Hid (∀ j (hj : j < d.es.length), j < k → entOk d.top d.es[j] = true ∧ (0 < j → (d.es[j - 1]'(by omega)).id < d.es[j].id)) ∧ Hid (RowIs wr w.heap.size 57 [.int .i64 d.lim, .int .i64 d.top, .slice ad d.es.length cap]) ∧ Hid (Below w.heap.size w wr)) (fun _ i _ => d.es.length - (intOf i).toNat)
    case atStart => exact ⟨0, rfl, Nat.zero_le _, rfl, fun j _ hj => absurd hj (Nat.not_lt_zero _), HX, hbx⟩
    case round =>
      clear HX hbx
      obtain ⟨k, rfl, hk, rfl, HC, HX, HB⟩ := hrel
      by_cases hlt : k < d.es.length
      · obtain ⟨b, o, cs, rfl, hbw, rfl, hc⟩ := (HR.out.new HB.out).at k hlt
        have c0 : wr.cell? ⟨b, o + k * 2, none⟩ = some (.int .i64 d.es[k].id) := hc 0 _ rfl
        have c1 : wr.cell? ⟨b, o + k * 2 + 1, none⟩ = some (.int .i64 d.es[k].state) := hc 1 _ rfl
        clear hc
        have x2 := HX.out.cell (j := 2) rfl
        have hlX := HX.out.lt
        have hlk := sum_take lv1 d.es k hlt
        have hll := live_le (d.es.take k)
        have hln := live_nn (d.es.take k)
        have hlk2 : (d.es.take k).length ≤ k := by rw [List.length_take]; omega
        have HLV : Hid (liveL (d.es.take (k + 1)) = liveL (d.es.take k) + lv1 d.es[k]) := hlk
        generalize liveL (d.es.take k) = q at *
        obtain ⟨e, he⟩ : ∃ e, d.es[k] = e := ⟨_, rfl⟩
        rw [he] at c0 c1
        have HE := hide he
        clear he hlk
        go_upto_region 8 with fail
        have hbe : Below wr.heap.size wr (wr.alloc (.cells #[.int .i64 e.id, .int .i64 e.state] 127)) := (Below.refl _ _).alloc (Nat.le_refl _) _
        have hre : RowIs (wr.alloc (.cells #[.int .i64 e.id, .int .i64 e.state] 127)) wr.heap.size 127 [.int .i64 e.id, .int .i64 e.state] := rowIs_new wr 127 [.int .i64 e.id, .int .i64 e.state]
        generalize wr.alloc (.cells #[.int .i64 e.id, .int .i64 e.state] 127) = X at *
        replace HX := hide (HX.out.new hbe)
        replace HB := hide (bchain HB.out hbe)
        have hre0 := hre.cell (j := 0) rfl
        have hre1 := hre.cell (j := 1) rfl
        have hlE := hre.lt
        have hx1 := HX.out.cell (j := 1) rfl
        have hx2 := HX.out.cell (j := 2) rfl
        have hlX2 := HX.out.lt
        generalize wr.heap.size = ge at *
        have qe0 : ∀ y : Later X, y.w.cell? ⟨ge, 0, none⟩ = some (.int .i64 e.id) := fun y => (y.b.cell (p := ⟨ge, 0, none⟩) hlE).trans hre0
        have qe1 : ∀ y : Later X, y.w.cell? ⟨ge, 1, none⟩ = some (.int .i64 e.state) := fun y => (y.b.cell (p := ⟨ge, 1, none⟩) hlE).trans hre1
        have qx1 : ∀ y : Later X, y.w.cell? ⟨w.heap.size, 1, none⟩ = some (.int .i64 d.top) := fun y => (y.b.cell (p := ⟨w.heap.size, 1, none⟩) hlX2).trans hx1
        have qx2 : ∀ y : Later X, y.w.cell? ⟨w.heap.size, 2, none⟩ = some (.slice (some ⟨b, o, none⟩) d.es.length cap) := fun y => (y.b.cell (p := ⟨w.heap.size, 2, none⟩) hlX2).trans hx2
        clear c0 c1 x2 hlX hbe hre hre0 hre1 hx1 hx2
        have hI := fun w => specId e.id w
        have hS := fun w => specIn e.state 1 4 w
        cases hi : idB e.id
        · rw [hi] at hI
          have HF : Hid (A = false) := by
            show A = false
            rw [← HA.out]
            refine ok_false fun c => ?_
            have hck := c.2.2.2.1 k hlt
            rw [HE.out] at hck
            have hek := entOk_iff.1 hck.1
            rw [hi] at hek; simp at hek
          have hne : Nonempty (Later X) := ⟨⟨X, Below.refl _ _⟩⟩; refine region_later (by kernel_rfl) (by kernel_rfl) ?_
          repeat (go_big_quiet_step (fail))
          go_big_quiet_want; go_big_quiet_op; refine ⟨.bool false, fun y => later_same (x := y) (hI y.w), ?_⟩; go_big_quiet_on
          repeat (go_big_quiet_step (fail))
          refine wpQuiet_nil ?_; intro _ hw'; obtain ⟨y, hw''⟩ := hw'; subst hw''; have hby := y.b
          go_wp2_with fail
          go_ret
          exact ⟨by rw [HF.out]; rfl, bchain HB.out hby⟩
        rw [hi] at hI
        by_cases htp : d.top < e.id
        · have HF : Hid (A = false) := by
            show A = false
            rw [← HA.out]
            refine ok_false fun c => ?_
            have hck := c.2.2.2.1 k hlt
            rw [HE.out] at hck
            have hek := entOk_iff.1 hck.1
            omega
          have hne : Nonempty (Later X) := ⟨⟨X, Below.refl _ _⟩⟩; refine region_later (by kernel_rfl) (by kernel_rfl) ?_
          repeat (go_big_quiet_step (fail))
          go_big_quiet_want; go_big_quiet_op; refine ⟨.bool true, fun y => later_same (x := y) (hI y.w), ?_⟩; go_big_quiet_on
          repeat (go_big_quiet_step (fail))
          refine wpQuiet_nil ?_; intro _ hw'; obtain ⟨y, hw''⟩ := hw'; subst hw''; have hby := y.b
          go_wp2_with fail
          go_ret
          exact ⟨by rw [HF.out]; rfl, bchain HB.out hby⟩
        cases hs : inB e.state 1 4
        · rw [hs] at hS
          have HF : Hid (A = false) := by
            show A = false
            rw [← HA.out]
            refine ok_false fun c => ?_
            have hck := c.2.2.2.1 k hlt
            rw [HE.out] at hck
            have hek := entOk_iff.1 hck.1
            exact inB_false hs hek.2.2
          have hne : Nonempty (Later X) := ⟨⟨X, Below.refl _ _⟩⟩; refine region_later (by kernel_rfl) (by kernel_rfl) ?_
          repeat (go_big_quiet_step (fail))
          go_big_quiet_want; go_big_quiet_op; refine ⟨.bool true, fun y => later_same (x := y) (hI y.w), ?_⟩; go_big_quiet_on
          repeat (go_big_quiet_step (fail))
          go_big_quiet_want; go_big_quiet_op; refine ⟨.bool false, fun y => later_same (x := y) (hS y.w), ?_⟩; go_big_quiet_on
          repeat (go_big_quiet_step (fail))
          refine wpQuiet_nil ?_; intro _ hw'; obtain ⟨y, hw''⟩ := hw'; subst hw''; have hby := y.b
          go_wp2_with fail
          go_ret
          exact ⟨by rw [HF.out]; rfl, bchain HB.out hby⟩
        rw [hs] at hS
        have HEK : Hid (entOk d.top d.es[k] = true) := by show _ = true; rw [HE.out]; exact entOk_iff.2 ⟨hi, by omega, inB_true hs⟩
        cases k with
        | zero =>
          have hk0 : decide ((0 : Int) < ((0 : Nat) : Int)) = false := rfl
          have hne : Nonempty (Later X) := ⟨⟨X, Below.refl _ _⟩⟩; refine region_later (by kernel_rfl) (by kernel_rfl) ?_
          repeat (go_big_quiet_step (fail))
          go_big_quiet_want; go_big_quiet_op; refine ⟨.bool true, fun y => later_same (x := y) (hI y.w), ?_⟩; go_big_quiet_on
          repeat (go_big_quiet_step (fail))
          go_big_quiet_want; go_big_quiet_op; refine ⟨.bool true, fun y => later_same (x := y) (hS y.w), ?_⟩; go_big_quiet_on
          repeat (go_big_quiet_step (fail))
          refine wpQuiet_nil ?_; intro _ hw'; obtain ⟨y, hw''⟩ := hw'; subst hw''; have hby := y.b
          have HC2 : Hid (∀ j (hj : j < d.es.length), j < 0 + 1 → entOk d.top d.es[j] = true ∧ (0 < j → (d.es[j - 1]'(by omega)).id < d.es[j].id)) := fun j hj hjk => by
            by_cases ej : j = 0
            · subst ej; exact ⟨HEK.out, fun h => absurd h (Nat.lt_irrefl _)⟩
            · exact HC.out j hj (by omega)
          have qq1 := qe1 y
          have HX2 := hide (HX.out.new hby)
          have HB2 := hide (bchain HB.out hby)
          have hlE2 := Nat.lt_of_lt_of_le hlE hby.size
          clear qe0 qe1 qx1 qx2 hne
          by_cases h4 : e.state = 4
          · have H4 : Hid (lv1 d.es[0] = 0) := by show lv1 _ = 0; unfold lv1; rw [HE.out, if_pos h4]
            have h4' : (e.state != 4) = false := by simp [h4]
            clear h4
            go_wp2_with fail
            go_roundw
            case rel => exact ⟨0 + 1, by go_num, by omega, int_eq (by have := HLV.out; have := H4.out; omega), HC2, HX2, HB2⟩
            case measure => simp [intOf]; omega
          · have H4 : Hid (lv1 d.es[0] = 1) := by show lv1 _ = 1; unfold lv1; rw [HE.out, if_neg h4]
            have h4' : (e.state != 4) = true := by simpa using h4
            clear h4
            go_wp2_with fail
            go_roundw
            case rel => exact ⟨0 + 1, by go_num, by omega, int_eq (by have := HLV.out; have := H4.out; omega), HC2, HX2, HB2⟩
            case measure => simp [intOf]; omega
        | succ k =>
          have hkp : decide ((0 : Int) < ((k + 1 : Nat) : Int)) = true := decide_eq_true (by omega)
          obtain ⟨b', o', cs', hbo, hbw', rfl, hc'⟩ := (HR.out.new HB.out).at k (by omega)
          simp only [Option.some.injEq, Addr.mk.injEq] at hbo
          obtain ⟨rfl, rfl, -⟩ := hbo
          have hp0 : X.cell? ⟨b, o + k * 2, none⟩ = some (.int .i64 (d.es[k]'(by omega)).id) := hc' 0 _ rfl
          clear hc'
          obtain ⟨pe, hpe⟩ : ∃ pe, (d.es[k]'(by omega)).id = pe := ⟨_, rfl⟩
          rw [hpe] at hp0
          have HPE := hide hpe
          clear hpe
          have qp0 : ∀ y : Later X, y.w.cell? ⟨b, o + k * 2, none⟩ = some (.int .i64 pe) := fun y => (y.b.cell (p := ⟨b, o + k * 2, none⟩) hbw').trans hp0
          clear hp0
          by_cases hpr : e.id ≤ pe
          · have HF : Hid (A = false) := by
              show A = false
              rw [← HA.out]
              refine ok_false fun c => ?_
              have hck := c.2.2.2.1 (k + 1) hlt
              rw [HE.out] at hck
              have hek := entOk_iff.1 hck.1
              have h3 := hck.2 (by omega)
              simp only [Nat.add_sub_cancel] at h3
              rw [HPE.out] at h3
              omega
            have hne : Nonempty (Later X) := ⟨⟨X, Below.refl _ _⟩⟩; refine region_later (by kernel_rfl) (by kernel_rfl) ?_
            repeat (go_big_quiet_step (fail))
            go_big_quiet_want; go_big_quiet_op; refine ⟨.bool true, fun y => later_same (x := y) (hI y.w), ?_⟩; go_big_quiet_on
            repeat (go_big_quiet_step (fail))
            go_big_quiet_want; go_big_quiet_op; refine ⟨.bool true, fun y => later_same (x := y) (hS y.w), ?_⟩; go_big_quiet_on
            repeat (go_big_quiet_step (fail))
            refine wpQuiet_nil ?_; intro _ hw'; obtain ⟨y, hw''⟩ := hw'; subst hw''; have hby := y.b
            go_wp2_with fail
            go_ret
            exact ⟨by rw [HF.out]; rfl, bchain HB.out hby⟩
          · have hne : Nonempty (Later X) := ⟨⟨X, Below.refl _ _⟩⟩; refine region_later (by kernel_rfl) (by kernel_rfl) ?_
            repeat (go_big_quiet_step (fail))
            go_big_quiet_want; go_big_quiet_op; refine ⟨.bool true, fun y => later_same (x := y) (hI y.w), ?_⟩; go_big_quiet_on
            repeat (go_big_quiet_step (fail))
            go_big_quiet_want; go_big_quiet_op; refine ⟨.bool true, fun y => later_same (x := y) (hS y.w), ?_⟩; go_big_quiet_on
            repeat (go_big_quiet_step (fail))
            refine wpQuiet_nil ?_; intro _ hw'; obtain ⟨y, hw''⟩ := hw'; subst hw''; have hby := y.b
            have HC2 : Hid (∀ j (hj : j < d.es.length), j < k + 1 + 1 → entOk d.top d.es[j] = true ∧ (0 < j → (d.es[j - 1]'(by omega)).id < d.es[j].id)) := fun j hj hjk => by
              by_cases ej : j = k + 1
              · subst ej; exact ⟨HEK.out, fun h => by have h3 := HPE.out; have h4 := HE.out; simp only [Nat.add_sub_cancel]; rw [h3, h4]; omega⟩
              · exact HC.out j hj (by omega)
            have qq1 := qe1 y
            have HX2 := hide (HX.out.new hby)
            have HB2 := hide (bchain HB.out hby)
            have hlE2 := Nat.lt_of_lt_of_le hlE hby.size
            clear qe0 qe1 qx1 qx2 qp0 hne
            by_cases h4 : e.state = 4
            · have H4 : Hid (lv1 d.es[k + 1] = 0) := by show lv1 _ = 0; unfold lv1; rw [HE.out, if_pos h4]
              have h4' : (e.state != 4) = false := by simp [h4]
              clear h4
              go_wp2_with fail
              go_roundw
              case rel => exact ⟨k + 1 + 1, by go_num, by omega, int_eq (by have := HLV.out; have := H4.out; omega), HC2, HX2, HB2⟩
              case measure => simp [intOf]; omega
            · have H4 : Hid (lv1 d.es[k + 1] = 1) := by show lv1 _ = 1; unfold lv1; rw [HE.out, if_neg h4]
              have h4' : (e.state != 4) = true := by simpa using h4
              clear h4
              go_wp2_with fail
              go_roundw
              case rel => exact ⟨k + 1 + 1, by go_num, by omega, int_eq (by have := HLV.out; have := H4.out; omega), HC2, HX2, HB2⟩
              case measure => simp [intOf]; omega
      · obtain rfl : k = d.es.length := by omega
        rw [List.take_length]
        have x0 := HX.out.cell (j := 0) rfl
        have x2 := HX.out.cell (j := 2) rfl
        have hlX := HX.out.lt
        have HOK : Hid (A = decide (liveL d.es ≤ d.lim)) := by
          show A = _
          rw [← HA.out]
          by_cases hl : liveL d.es ≤ d.lim
          · rw [decide_eq_true hl]; exact okRg_iff.2 ⟨HLIM.out, HTOP.out, by omega, fun j hj => HC.out j hj hj, hl⟩
          · rw [decide_eq_false hl]; exact ok_false fun c => hl c.2.2.2.2
        go_wp2_with fail
        go_ret
        exact ⟨by rw [HOK.out]; rfl, HB.out⟩
end Go.Proofs.YtkhclhnejnpkeaaGreat
/- Chapter 15's model: when a list of tenants is right. -/
namespace Go.Proofs.YtkhclhnejnpkeaaGreat
open Go.RowKit
set_option maxRecDepth 100000
set_option linter.unusedSimpArgs false
set_option linter.unusedVariables false
theorem specInB (x lo hi : Int) (w : World) : Calls Tryz.prog 27 #[.int .i64 x, .int .i64 lo, .int .i64 hi] w fun e w' => e = .returned (.bool (inB x lo hi)) ∧ Below w.heap.size w w' := (specIn x lo hi w).mono fun e w' ⟨h1, h2⟩ => ⟨h1, by subst h2; exact Below.refl _ _⟩
theorem tn_not {x : TenantD} {P : Prop} (h1 : okTn x = true → P) (h2 : ¬ P) : okTn x = false := by
  cases e : okTn x
  · rfl
  · exact absurd (h1 e) h2
set_option maxRecDepth 100000 in
set_option maxHeartbeats 4000000 in
theorem specTenantsOk (L : List TenantD) (v : Value) (w : World) (hr : RdR tenantS w v L) : Calls Tryz.prog 25 #[v] w fun x w' => x = .returned (.bool (okTs L)) ∧ Below w.heap.size w w' := by
  obtain ⟨ad, cap, rfl, h1, h2⟩ := hr.form
  obtain ⟨A, hA⟩ : ∃ A, okTs L = A := ⟨_, rfl⟩
  rw [hA]
  have HA := hide hA
  have HR := hide hr
  clear hA hr
  by_cases h8 : (8 : Int) < L.length
  · have HF : Hid (A = false) := by show A = false; rw [← HA.out]; exact ts_false fun c => by omega
    go_enter Tryz.func25, Tryz.ntmps25
    go_wp2_with fail
    go_ret
    exact ⟨by rw [HF.out]; rfl, Below.refl _ _⟩
  go_enter Tryz.func25, Tryz.ntmps25
  go_wp2_with fail
  go_loopw [3, 4, 5] (fun i _ _ wr => ∃ k : Nat, i = .int .i64 (k : Int) ∧ k ≤ L.length ∧ Hid (∀ j, j < k → okTn (tn L j) = true ∧ (j = 0 ∨ leS (tn L j).nm (tn L (j - 1)).nm = false)) ∧ Hid (Below w.heap.size w wr)) (fun i _ _ _ => L.length - (intOf i).toNat)
  case atStart => exact ⟨0, rfl, Nat.zero_le _, fun j h => absurd h (Nat.not_lt_zero _), hide (Below.refl _ _)⟩
  case round =>
    obtain ⟨k, rfl, hk, HC, HB⟩ := hrel
    by_cases hlt : k < L.length
    rotate_left
    · have hltI : ¬ (k : Int) < L.length := by omega
      have HT : Hid (A = true) := by show A = true; rw [← HA.out]; exact okTs_iff.2 ⟨by omega, fun i hi => HC.out i (by omega)⟩
      go_wp2_with fail
      go_ret
      exact ⟨by rw [HT.out]; rfl, HB.out⟩
    have hltI : (k : Int) < L.length := by omega
    obtain ⟨b, o, cs, rfl, hbw, hrd, hc⟩ := (HR.out.new HB.out).at k hlt
    have HE : Hid (tn L k = L[k]) := tn_get hlt
    obtain ⟨x, hx⟩ : ∃ x, L[k] = x := ⟨_, rfl⟩
    rw [hx] at hrd HE
    clear hx
    obtain ⟨vl, rfl, f0, f1, hls⟩ := hrd
    obtain ⟨al, pl, rfl, q1, q2⟩ := hls.form
    have c0 : wr.cell? ⟨b, o + k * 4, none⟩ = some (.string x.nm) := hc 0 _ rfl
    have c1 : wr.cell? ⟨b, o + k * 4 + 1, none⟩ = some (.string x.key) := hc 1 _ rfl
    have c2 : wr.cell? ⟨b, o + k * 4 + 2, none⟩ = some (.slice al x.list.length pl) := hc 2 _ rfl
    have c3 : wr.cell? ⟨b, o + k * 4 + 3, none⟩ = some (.int .i64 x.quota) := hc 3 _ rfl
    have hX : Below wr.heap.size wr (wr.alloc (.cells #[.string x.nm, .string x.key, .slice al x.list.length pl, .int .i64 x.quota] 88)) := (Below.refl _ _).alloc (Nat.le_refl _) _
    have RX := rowIs_new wr 88 [.string x.nm, .string x.key, .slice al x.list.length pl, .int .i64 x.quota]
    have HLS := hide (hls.new hX)
    have HBX := hide (bchain HB.out hX)
    have HRX := hide ((HR.out.new HB.out).new hX)
    go_upto_region 7 with fail
    clear hc hls c0 c1 c2 c3 hbw HB
    generalize hge : wr.heap.size = ge at *
    clear hge
    generalize wr.alloc (.cells #[.string x.nm, .string x.key, .slice al x.list.length pl, .int .i64 x.quota] 88) = X at *
    have x0 := RX.cell (j := 0) rfl
    have x1 := RX.cell (j := 1) rfl
    have x2 := RX.cell (j := 2) rfl
    have x3 := RX.cell (j := 3) rfl
    have xl := RX.lt
    have HRX2 := hide RX
    have qe0 : ∀ y : Later X, y.w.cell? ⟨ge, 0, none⟩ = some (.string x.nm) := fun y => (y.b.cell (p := ⟨ge, 0, none⟩) xl).trans x0
    have qe1 : ∀ y : Later X, y.w.cell? ⟨ge, 1, none⟩ = some (.string x.key) := fun y => (y.b.cell (p := ⟨ge, 1, none⟩) xl).trans x1
    have qe2 : ∀ y : Later X, y.w.cell? ⟨ge, 2, none⟩ = some (.slice al x.list.length pl) := fun y => (y.b.cell (p := ⟨ge, 2, none⟩) xl).trans x2
    have qe3 : ∀ y : Later X, y.w.cell? ⟨ge, 3, none⟩ = some (.int .i64 x.quota) := fun y => (y.b.cell (p := ⟨ge, 3, none⟩) xl).trans x3
    clear x0 x1 x2 x3 RX hX
    have hN := fun w => specName x.nm w (by unfold maxLen; omega)
    have hK := fun w => specInB (x.key.size : Int) 1 40 w
    have hQ := fun w => specInB x.quota 0 20 w
    have HNO : Hid (okTn x = false → A = false) := fun h => by rw [← HA.out]; exact ts_false fun c => by have := (c.2 k hlt).1; rw [HE.out, h] at this; cases this
    cases hi : nameB x.nm
    · rw [hi] at hN
      have HF : Hid (A = false) := HNO.out (tn_not (fun h => (okTn_iff.1 h).1) (by rw [hi]; decide))
      have hne : Nonempty (Later X) := ⟨⟨X, Below.refl _ _⟩⟩; refine region_later (by kernel_rfl) (by kernel_rfl) ?_; repeat (go_big_quiet_step (fail))
      go_big_quiet_want; go_big_quiet_op; refine ⟨.bool false, fun y => later_calls (x := y) (hN y.w), ?_⟩; go_big_quiet_on; repeat (go_big_quiet_step (fail))
      refine wpQuiet_nil ?_; intro _ hw'; obtain ⟨y, hw''⟩ := hw'; subst hw''; have hby := y.b
      go_wp2_with fail
      go_ret
      exact ⟨by rw [HF.out]; rfl, bchain HBX.out hby⟩
    rw [hi] at hN
    cases hk1 : inB (x.key.size : Int) 1 40
    · rw [hk1] at hK
      have HF : Hid (A = false) := HNO.out (tn_not (fun h => (okTn_iff.1 h).2.1) (by rw [hk1]; decide))
      have hne : Nonempty (Later X) := ⟨⟨X, Below.refl _ _⟩⟩; refine region_later (by kernel_rfl) (by kernel_rfl) ?_; repeat (go_big_quiet_step (fail))
      go_big_quiet_want; go_big_quiet_op; refine ⟨.bool true, fun y => later_calls (x := y) (hN y.w), ?_⟩; go_big_quiet_on; repeat (go_big_quiet_step (fail))
      go_big_quiet_want; go_big_quiet_op; refine ⟨.bool false, fun y => later_calls (x := y) (hK y.w), ?_⟩; go_big_quiet_on; repeat (go_big_quiet_step (fail))
      refine wpQuiet_nil ?_; intro _ hw'; obtain ⟨y, hw''⟩ := hw'; subst hw''; have hby := y.b
      go_wp2_with fail
      go_ret
      exact ⟨by rw [HF.out]; rfl, bchain HBX.out hby⟩
    rw [hk1] at hK
    by_cases hl20 : (20 : Int) < x.list.length
    · have HF : Hid (A = false) := HNO.out (tn_not (fun h => (okTn_iff.1 h).2.2.1) (by omega))
      have hne : Nonempty (Later X) := ⟨⟨X, Below.refl _ _⟩⟩; refine region_later (by kernel_rfl) (by kernel_rfl) ?_; repeat (go_big_quiet_step (fail))
      go_big_quiet_want; go_big_quiet_op; refine ⟨.bool true, fun y => later_calls (x := y) (hN y.w), ?_⟩; go_big_quiet_on; repeat (go_big_quiet_step (fail))
      go_big_quiet_want; go_big_quiet_op; refine ⟨.bool true, fun y => later_calls (x := y) (hK y.w), ?_⟩; go_big_quiet_on; repeat (go_big_quiet_step (fail))
      refine wpQuiet_nil ?_; intro _ hw'; obtain ⟨y, hw''⟩ := hw'; subst hw''; have hby := y.b
      go_wp2_with fail
      go_ret
      exact ⟨by rw [HF.out]; rfl, bchain HBX.out hby⟩
    cases hq1 : inB x.quota 0 20
    · rw [hq1] at hQ
      have HF : Hid (A = false) := HNO.out (tn_not (fun h => (okTn_iff.1 h).2.2.2.1) (by rw [hq1]; decide))
      have hne : Nonempty (Later X) := ⟨⟨X, Below.refl _ _⟩⟩; refine region_later (by kernel_rfl) (by kernel_rfl) ?_; repeat (go_big_quiet_step (fail))
      go_big_quiet_want; go_big_quiet_op; refine ⟨.bool true, fun y => later_calls (x := y) (hN y.w), ?_⟩; go_big_quiet_on; repeat (go_big_quiet_step (fail))
      go_big_quiet_want; go_big_quiet_op; refine ⟨.bool true, fun y => later_calls (x := y) (hK y.w), ?_⟩; go_big_quiet_on; repeat (go_big_quiet_step (fail))
      go_big_quiet_want; go_big_quiet_op; refine ⟨.bool false, fun y => later_calls (x := y) (hQ y.w), ?_⟩; go_big_quiet_on; repeat (go_big_quiet_step (fail))
      refine wpQuiet_nil ?_; intro _ hw'; obtain ⟨y, hw''⟩ := hw'; subst hw''; have hby := y.b
      go_wp2_with fail
      go_ret
      exact ⟨by rw [HF.out]; rfl, bchain HBX.out hby⟩
    rw [hq1] at hQ
    cases k with
    | zero =>
      have HLE : Hid ((0 : Nat) = 0 ∨ leS (tn L 0).nm (tn L (0 - 1)).nm = false) := .inl rfl
      have hk0 : decide ((0 : Int) < ((0 : Nat) : Int)) = false := rfl
      have hne : Nonempty (Later X) := ⟨⟨X, Below.refl _ _⟩⟩; refine region_later (by kernel_rfl) (by kernel_rfl) ?_; repeat (go_big_quiet_step (fail))
      go_big_quiet_want; go_big_quiet_op; refine ⟨.bool true, fun y => later_calls (x := y) (hN y.w), ?_⟩; go_big_quiet_on; repeat (go_big_quiet_step (fail))
      go_big_quiet_want; go_big_quiet_op; refine ⟨.bool true, fun y => later_calls (x := y) (hK y.w), ?_⟩; go_big_quiet_on; repeat (go_big_quiet_step (fail))
      go_big_quiet_want; go_big_quiet_op; refine ⟨.bool true, fun y => later_calls (x := y) (hQ y.w), ?_⟩; go_big_quiet_on; repeat (go_big_quiet_step (fail))
      refine wpQuiet_nil ?_; intro _ hw'; obtain ⟨y, hw''⟩ := hw'; subst hw''; have hby := y.b
      have qq2 := qe2 y; have HLS2 := hide (HLS.out.new hby); have HB2 := hide (bchain HBX.out hby); have xl2 := Nat.lt_of_lt_of_le xl hby.size; clear qe0 qe1 qe2 qe3 hne HLS HBX; (try clear qp0); go_wp2_with fail; go_loop [5] (fun i => ∃ q : Nat, i = .int .i64 (q : Int) ∧ q ≤ x.list.length ∧ Hid (∀ s ∈ x.list.take q, s.size ≤ 60)) (fun i => x.list.length - (intOf i).toNat)
      case atStart => exact ⟨0, rfl, Nat.zero_le _, by show ∀ s ∈ x.list.take 0, _; simp⟩
      case round =>
        obtain ⟨q, rfl, hq, H60⟩ := hrel
        by_cases hqs : q < x.list.length
        · have hqI : (q : Int) < x.list.length := by omega
          obtain ⟨b9, o9, rfl, hb9, cx, hsx⟩ := strs_at HLS2.out hqs
          obtain ⟨s, hs⟩ : ∃ s, x.list[q] = s := ⟨_, rfl⟩
          rw [hs] at cx hsx
          by_cases hs60 : (60 : Int) < s.size
          · have HF : Hid (A = false) := HNO.out (tn_not (fun h => (okTn_iff.1 h).2.2.2.2 s (by rw [← hs]; exact List.getElem_mem hqs)) (by omega))
            clear hs
            go_wp2_with fail
            go_ret
            exact ⟨by rw [HF.out]; rfl, HB2.out⟩
          · have H602 : Hid (∀ z ∈ x.list.take (q + 1), z.size ≤ 60) := by
              show ∀ z ∈ _, _
              intro z hz
              rw [List.take_add_one, List.getElem?_eq_getElem hqs, hs] at hz
              rcases List.mem_append.1 hz with h | h
              · exact H60.out z h
              · simp at h; subst h; omega
            clear hs
            go_wp2_with fail
            go_round
            case rel => exact ⟨q + 1, by go_num, by omega, H602⟩
            case measure => simp [intOf]; omega
        · have hqI : ¬ (q : Int) < x.list.length := by omega
          have HOKX : Hid (okTn x = true) := okTn_iff.2 ⟨hi, hk1, by omega, hq1, fun s hs => H60.out s (by rw [List.take_of_length_le (by omega)]; exact hs)⟩
          have HC2 : Hid (∀ j, j < 0 + 1 → okTn (tn L j) = true ∧ (j = 0 ∨ leS (tn L j).nm (tn L (j - 1)).nm = false)) := fun j hj => by
            by_cases ej : j = 0
            · subst ej; exact ⟨by rw [HE.out]; exact HOKX.out, by first | exact HLE.out | exact .inl rfl⟩
            · exact HC.out j (by omega)
          go_wp2_with fail
          go_roundw
          case rel => exact ⟨0 + 1, by go_num, by omega, HC2, HB2⟩
          case measure => simp [intOf]; omega
    | succ m =>
      have hm : m < L.length := by omega
      obtain ⟨b2, o2, cs2, hbo, hbw2, hrd2, hc2⟩ := HRX.out.at m hm
      simp only [Option.some.injEq, Addr.mk.injEq] at hbo
      obtain ⟨rfl, rfl, -⟩ := hbo
      obtain ⟨vl2, rfl, _, _, _⟩ := hrd2
      have hp0 : X.cell? ⟨b, o + m * 4, none⟩ = some (.string (L[m]'hm).nm) := hc2 0 _ rfl
      clear hc2
      have HPE : Hid (tn L m = L[m]) := tn_get hm
      obtain ⟨pn, hpn⟩ : ∃ pn, (L[m]'hm).nm = pn := ⟨_, rfl⟩
      rw [hpn] at hp0
      have HPN : Hid ((tn L m).nm = pn) := by show _ = pn; rw [HPE.out, hpn]
      clear hpn HPE
      have qp0 : ∀ y : Later X, y.w.cell? ⟨b, o + m * 4, none⟩ = some (.string pn) := fun y => (y.b.cell (p := ⟨b, o + m * 4, none⟩) hbw2).trans hp0
      clear hp0
      have hm1 : (((m + 1 : Nat) : Int) - 1) = (m : Int) := by omega
      have hm0 : (0 : Int) < ((m + 1 : Nat) : Int) := by omega
      cases hle : leS x.nm pn
      rotate_left
      · have HF : Hid (A = false) := by
          show A = false
          rw [← HA.out]
          refine ts_false fun c => ?_
          rcases (c.2 (m + 1) hlt).2 with h | h
          · omega
          · rw [HE.out] at h
            simp only [Nat.add_sub_cancel] at h
            rw [HPN.out, hle] at h
            cases h
        unfold leS at hle
        have hne : Nonempty (Later X) := ⟨⟨X, Below.refl _ _⟩⟩; refine region_later (by kernel_rfl) (by kernel_rfl) ?_; repeat (go_big_quiet_step (fail))
        go_big_quiet_want; go_big_quiet_op; refine ⟨.bool true, fun y => later_calls (x := y) (hN y.w), ?_⟩; go_big_quiet_on; repeat (go_big_quiet_step (fail))
        go_big_quiet_want; go_big_quiet_op; refine ⟨.bool true, fun y => later_calls (x := y) (hK y.w), ?_⟩; go_big_quiet_on; repeat (go_big_quiet_step (fail))
        go_big_quiet_want; go_big_quiet_op; refine ⟨.bool true, fun y => later_calls (x := y) (hQ y.w), ?_⟩; go_big_quiet_on; repeat (go_big_quiet_step (fail))
        refine wpQuiet_nil ?_; intro _ hw'; obtain ⟨y, hw''⟩ := hw'; subst hw''; have hby := y.b
        go_wp2_with fail
        go_ret
        exact ⟨by rw [HF.out]; rfl, bchain HBX.out hby⟩
      have HLE : Hid (m + 1 = 0 ∨ leS (tn L (m + 1)).nm (tn L (m + 1 - 1)).nm = false) := .inr (by rw [HE.out]; simp only [Nat.add_sub_cancel]; rw [HPN.out]; exact hle)
      unfold leS at hle
      have hne : Nonempty (Later X) := ⟨⟨X, Below.refl _ _⟩⟩; refine region_later (by kernel_rfl) (by kernel_rfl) ?_; repeat (go_big_quiet_step (fail))
      go_big_quiet_want; go_big_quiet_op; refine ⟨.bool true, fun y => later_calls (x := y) (hN y.w), ?_⟩; go_big_quiet_on; repeat (go_big_quiet_step (fail))
      go_big_quiet_want; go_big_quiet_op; refine ⟨.bool true, fun y => later_calls (x := y) (hK y.w), ?_⟩; go_big_quiet_on; repeat (go_big_quiet_step (fail))
      go_big_quiet_want; go_big_quiet_op; refine ⟨.bool true, fun y => later_calls (x := y) (hQ y.w), ?_⟩; go_big_quiet_on; repeat (go_big_quiet_step (fail))
      refine wpQuiet_nil ?_; intro _ hw'; obtain ⟨y, hw''⟩ := hw'; subst hw''; have hby := y.b
      clear hle
      have qq2 := qe2 y; have HLS2 := hide (HLS.out.new hby); have HB2 := hide (bchain HBX.out hby); have xl2 := Nat.lt_of_lt_of_le xl hby.size; clear qe0 qe1 qe2 qe3 hne HLS HBX; (try clear qp0); go_wp2_with fail; go_loop [5] (fun i => ∃ q : Nat, i = .int .i64 (q : Int) ∧ q ≤ x.list.length ∧ Hid (∀ s ∈ x.list.take q, s.size ≤ 60)) (fun i => x.list.length - (intOf i).toNat)
      case atStart => exact ⟨0, rfl, Nat.zero_le _, by show ∀ s ∈ x.list.take 0, _; simp⟩
      case round =>
        obtain ⟨q, rfl, hq, H60⟩ := hrel
        by_cases hqs : q < x.list.length
        · have hqI : (q : Int) < x.list.length := by omega
          obtain ⟨b9, o9, rfl, hb9, cx, hsx⟩ := strs_at HLS2.out hqs
          obtain ⟨s, hs⟩ : ∃ s, x.list[q] = s := ⟨_, rfl⟩
          rw [hs] at cx hsx
          by_cases hs60 : (60 : Int) < s.size
          · have HF : Hid (A = false) := HNO.out (tn_not (fun h => (okTn_iff.1 h).2.2.2.2 s (by rw [← hs]; exact List.getElem_mem hqs)) (by omega))
            clear hs
            go_wp2_with fail
            go_ret
            exact ⟨by rw [HF.out]; rfl, HB2.out⟩
          · have H602 : Hid (∀ z ∈ x.list.take (q + 1), z.size ≤ 60) := by
              show ∀ z ∈ _, _
              intro z hz
              rw [List.take_add_one, List.getElem?_eq_getElem hqs, hs] at hz
              rcases List.mem_append.1 hz with h | h
              · exact H60.out z h
              · simp at h; subst h; omega
            clear hs
            go_wp2_with fail
            go_round
            case rel => exact ⟨q + 1, by go_num, by omega, H602⟩
            case measure => simp [intOf]; omega
        · have hqI : ¬ (q : Int) < x.list.length := by omega
          have HOKX : Hid (okTn x = true) := okTn_iff.2 ⟨hi, hk1, by omega, hq1, fun s hs => H60.out s (by rw [List.take_of_length_le (by omega)]; exact hs)⟩
          have HC2 : Hid (∀ j, j < (m + 1) + 1 → okTn (tn L j) = true ∧ (j = 0 ∨ leS (tn L j).nm (tn L (j - 1)).nm = false)) := fun j hj => by
            by_cases ej : j = (m + 1)
            · subst ej; exact ⟨by rw [HE.out]; exact HOKX.out, by first | exact HLE.out | exact .inl rfl⟩
            · exact HC.out j (by omega)
          go_wp2_with fail
          go_roundw
          case rel => exact ⟨(m + 1) + 1, by go_num, by omega, HC2, HB2⟩
          case measure => simp [intOf]; omega
end Go.Proofs.YtkhclhnejnpkeaaGreat
/- Tenants in plain words, for the law FnAdmits: names that rise are apart, who is reached is found and listed, what each code tells. -/
namespace Go.Proofs.YtkhclhnejnpkeaaGreat
open Go.RowKit
set_option maxRecDepth 100000
set_option linter.unusedSimpArgs false
set_option linter.unusedVariables false
theorem less_irr : ∀ x : List UInt8, Op.bytesLess x x = false
  | [] => rfl
  | a :: x => by simp [Op.bytesLess, less_irr x]
theorem less_tr : ∀ x y z : List UInt8, Op.bytesLess x y = true → Op.bytesLess y z = true → Op.bytesLess x z = true
  | _, [], _, h, _ => by simp [Op.bytesLess] at h
  | _, b :: y, [], _, h => by simp [Op.bytesLess] at h
  | [], b :: y, c :: z, _, _ => by simp [Op.bytesLess]
  | a :: x, b :: y, c :: z, h1, h2 => by
    simp only [Op.bytesLess, Bool.or_eq_true, decide_eq_true_eq, Bool.and_eq_true, beq_iff_eq] at h1 h2 ⊢
    rcases h1 with h1 | ⟨rfl, h1⟩
    · rcases h2 with h2 | ⟨rfl, h2⟩
      · exact .inl (UInt8.lt_trans h1 h2)
      · exact .inl h1
    · rcases h2 with h2 | ⟨rfl, h2⟩
      · exact .inl h2
      · exact .inr ⟨rfl, less_tr x y z h1 h2⟩
theorem less_tot : ∀ x y : List UInt8, Op.bytesLess x y = false → x ≠ y → Op.bytesLess y x = true
  | [], [], _, h => absurd rfl h
  | [], b :: y, h, _ => by simp [Op.bytesLess] at h
  | a :: x, [], _, _ => by simp [Op.bytesLess]
  | a :: x, b :: y, h, hn => by
    simp only [Op.bytesLess, Bool.or_eq_false_iff, decide_eq_false_iff_not, Bool.and_eq_false_iff, beq_eq_false_iff_ne] at h
    simp only [Op.bytesLess, Bool.or_eq_true, decide_eq_true_eq, Bool.and_eq_true, beq_iff_eq]
    obtain ⟨h1, h2⟩ := h
    by_cases e : a = b
    · subst e
      rcases h2 with h2 | h2
      · exact absurd rfl h2
      · exact .inr ⟨rfl, less_tot x y h2 (fun e => hn (by rw [e]))⟩
    · refine .inl ?_
      rcases UInt8.lt_or_lt_of_ne e with h | h
      · exact absurd h h1
      · exact h
theorem le_lt {a b : ByteArray} (h : leS b a = false) : Op.bytesLess a.toList b.toList = true := by
  unfold leS at h
  simp only [Bool.or_eq_false_iff, beq_eq_false_iff_ne] at h
  exact less_tot _ _ h.1 h.2
theorem rises {L : List TenantD} (h : okTs L = true) : ∀ j i, i < j → j < L.length → Op.bytesLess (tn L i).nm.toList (tn L j).nm.toList = true := by
  obtain ⟨_, hall⟩ := okTs_iff.1 h
  intro j
  induction j with
  | zero => intro i hi; omega
  | succ j ih =>
    intro i hi hj
    have h1 : leS (tn L (j + 1)).nm (tn L j).nm = false := by
      rcases (hall (j + 1) hj).2 with h0 | h0
      · omega
      · exact h0
    have h2 := le_lt h1
    by_cases e : i = j
    · subst e; exact h2
    · exact less_tr _ _ _ (ih i (by omega) (by omega)) h2
theorem apart_names {L : List TenantD} (h : okTs L = true) {i j : Nat} (hi : i < L.length) (hj : j < L.length) (e : (tn L i).nm = (tn L j).nm) : i = j := by
  rcases Nat.lt_trichotomy i j with h1 | h1 | h1
  · have := rises h j i h1 hj; rw [e, less_irr] at this; cases this
  · exact h1
  · have := rises h i j h1 hi; rw [e, less_irr] at this; cases this
end Go.Proofs.YtkhclhnejnpkeaaGreat
