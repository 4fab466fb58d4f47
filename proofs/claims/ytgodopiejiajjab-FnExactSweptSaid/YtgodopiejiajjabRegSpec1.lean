/- Chapter 10's model, what it asks: odd numbers, how many live, where one is, RegistryOk, StateOf, Live. -/
import Derived.Test.YtgodopiejiajjabRegMath
import Derived.Test.YtgodopiejiajjabInB
import Derived.Test.YtgodopiejiajjabRowIs
import Derived.Deep.DeepCutAuto

namespace Go.Proofs.Ytgodopiejiajjab
open Go.RowKit
set_option maxRecDepth 100000
set_option linter.unusedSimpArgs false
set_option linter.unusedVariables false
def ev (L : List EntryD) : List Value := L.flatMap EntryD.cs
theorem ev_len (L : List EntryD) : (ev L).length = L.length * 2 := flat_length EntryD.cs 2 (fun _ => rfl) L
theorem ev_get (L : List EntryD) (k : Nat) (h : k < L.length) : (ev L)[k * 2]? = some (.int .i64 L[k].id) ∧ (ev L)[k * 2 + 1]? = some (.int .i64 L[k].state) :=
  ⟨flat_get EntryD.cs 2 (fun _ => rfl) L k h 0 (by decide), flat_get EntryD.cs 2 (fun _ => rfl) L k h 1 (by decide)⟩
theorem ev_one (L : List EntryD) : ∀ u ∈ ev L, u.oneCell' = true := by
  intro u hu
  obtain ⟨f, _, hf⟩ := List.mem_flatMap.1 hu
  simp only [EntryD.cs, List.mem_cons, List.not_mem_nil, or_false] at hf
  rcases hf with rfl | rfl <;> rfl
theorem ev_app (A B : List EntryD) : ev (A ++ B) = ev A ++ ev B := by simp [ev]
theorem ent_flat : ∀ (w : World) (cs : List Value) (d : EntryD), entryS.rd w cs d → cs = EntryD.cs d := fun _ _ _ h => h
theorem rd_ev {w : World} {v : Value} {L : List EntryD} (h : RdR entryS w v L) : Reads w v L.length 2 (ev L) := RdR.flat (E := entryS) ent_flat h
theorem ow_ev {w : World} {lo hi : Nat} {v : Value} {L : List EntryD} (h : OwX entryS w lo hi v L) : w.ownsRow lo 37 2 v L.length (ev L) := OwX.flat (E := entryS) ent_flat h
theorem ev_ow {w : World} {lo : Nat} {v : Value} {L : List EntryD} (h : w.ownsRow lo 37 2 v L.length (ev L)) : OwX entryS w lo w.heap.size v L := owX_flat (E := entryS) (f := EntryD.cs) (fun d _ => ⟨rfl, rfl⟩) h
theorem ev_rd {w : World} {v : Value} {L : List EntryD} (h : Reads w v L.length 2 (ev L)) : RdR entryS w v L :=
  ⟨L.map fun d => (d.cs, d), by simp [Function.comp_def], by show Reads w v (L.map _).length 2 _; simpa [List.flatMap_map, ev] using h, fun t ht => by obtain ⟨d, _, rfl⟩ := List.mem_map.1 ht; rfl⟩
def atI (L : List EntryD) (id : Int) : Int := match atE L id with | some k => (k : Int) | none => -1
theorem specId (x : Int) (w : World) : Calls Try.prog 22 #[.int .i64 x] w fun e w' => e = .returned (.bool (idB x)) ∧ w' = w := by
  cases h : inB x 1 100000
  · have hv : idB x = false := by unfold idB; refine decide_eq_false fun c => ?_; exact inB_false h ⟨c.1, c.2.1⟩
    rw [hv]
    go_enter Try.func22, Try.ntmps22
    go_wp2_with fail
    refine (specIn _ _ _ _).mono ?_; rw [h]; rintro e w1 ⟨rfl, hsame⟩; obtain rfl := hsame.symm; clear hsame
    go_wp2_with fail
    go_ret
    exact ⟨rfl, rfl⟩
  · obtain ⟨h0, h1⟩ := inB_true h
    have ht : x.tmod 2 = x % 2 := Int.tmod_eq_emod_of_nonneg (by omega)
    have hv : idB x = decide (x % 2 = 1) := by unfold idB; congr 1; exact propext ⟨fun c => c.2.2, fun c => ⟨h0, h1, c⟩⟩
    rw [hv]
    go_enter Try.func22, Try.ntmps22
    go_wp2_with fail
    refine (specIn _ _ _ _).mono ?_; rw [h]; rintro e w1 ⟨rfl, hsame⟩; obtain rfl := hsame.symm; clear hsame
    go_wp2_with fail
    go_ret
    exact ⟨by rfl, rfl⟩

theorem atI_none {L : List EntryD} {id : Int} (h : ∀ e ∈ L, e.id ≠ id) : atI L id = -1 := by unfold atI; rw [atE_no h]
theorem atI_some {L : List EntryD} {id : Int} {k : Nat} (h : atE L id = some k) : atI L id = k := by unfold atI; rw [h]

theorem ok_false {d : RegistryD} (h : ¬ ((0 ≤ d.lim ∧ d.lim ≤ 20) ∧ (d.top = 0 ∨ idB d.top = true) ∧ d.es.length ≤ 60 ∧ (∀ i (h : i < d.es.length), entOk d.top d.es[i] = true ∧ (0 < i → (d.es[i - 1]'(by omega)).id < d.es[i].id)) ∧ liveL d.es ≤ d.lim)) : okRg d = false := by
  cases hq : okRg d
  · rfl
  · exact absurd (okRg_iff.1 hq) h
set_option maxHeartbeats 4000000 in
theorem specRegistryOk (d : RegistryD) (v : Value) (w : World) (hr : RdR entryS w v d.es) : Calls Try.prog 12 #[.agg #[.int .i64 d.lim, .int .i64 d.top, v]] w fun x w' => x = .returned (.bool (okRg d)) ∧ Below w.heap.size w w' := by
  obtain ⟨ad, cap, rfl, h1, h2⟩ := hr.form
  have HR := hide hr
  clear hr
  obtain ⟨A, hA⟩ : ∃ A, okRg d = A := ⟨_, rfl⟩
  rw [hA]
  have HA := hide hA
  clear hA
  cases hlim : inB d.lim 0 20
  · have HF : Hid (A = false) := by show A = false; rw [← HA.out]; exact ok_false fun c => inB_false hlim c.1
    go_enter Try.func12, Try.ntmps12; go_wp2_with fail; refine (specIn _ _ _ _).mono ?_; rw [hlim]; rintro e w1 ⟨rfl, hsame⟩; obtain rfl := hsame.symm; clear hsame; go_wp2_with fail
    go_ret
    exact ⟨by rw [HF.out]; rfl, (by repeat' (first | (with_reducible exact Below.refl _ _) | (with_reducible refine Below.drew ?_) | (with_reducible refine bo_drewN _ ?_) | (with_reducible refine bo_alloc ?_ _) | (refine bchain ?_ (by with_reducible assumption)) | (with_reducible refine Below.setCell ?_ ?_ _) | go_size))⟩
  have htc : (d.top = 0 ∧ (d.top != 0) = false) ∨ ((d.top != 0) = true ∧ idB d.top = false) ∨ ((d.top != 0) = true ∧ idB d.top = true) := by
    by_cases h : d.top = 0
    · exact .inl ⟨h, by simp [h]⟩
    · cases hq : idB d.top
      · exact .inr (.inl ⟨by simpa using h, rfl⟩)
      · exact .inr (.inr ⟨by simpa using h, rfl⟩)
  have hid := fun w => specId d.top w
  rcases htc with ⟨ht0, ht1⟩ | ⟨ht1, ht2⟩ | ⟨ht1, ht2⟩
  · have HT0 := hide ht0
    clear ht0
    go_enter Try.func12, Try.ntmps12
    go_wp2_with fail
    refine (specIn _ _ _ _).mono ?_; rw [hlim]; rintro e w1 ⟨rfl, hsame⟩; obtain rfl := hsame.symm; clear hsame
    by_cases h60 : (60 : Int) < d.es.length
    · have HF : Hid (A = false) := by show A = false; rw [← HA.out]; exact ok_false fun c => by have := c.2.2.1; omega
      go_wp2_with fail
      go_ret
      exact ⟨by rw [HF.out]; rfl, (by repeat' (first | (with_reducible exact Below.refl _ _) | (with_reducible refine Below.drew ?_) | (with_reducible refine bo_drewN _ ?_) | (with_reducible refine bo_alloc ?_ _) | (refine bchain ?_ (by with_reducible assumption)) | (with_reducible refine Below.setCell ?_ ?_ _) | go_size))⟩
    have HTOP : Hid (d.top = 0 ∨ idB d.top = true) := .inl HT0.out
    have HLIM := hide (inB_true hlim)
    clear hid
    have hbx : Below w.heap.size w (w.alloc (.cells #[.int .i64 d.lim, .int .i64 d.top, .slice ad d.es.length cap] 28)) := (Below.refl _ _).alloc (Nat.le_refl _) _
    have HX : Hid (RowIs (w.alloc (.cells #[.int .i64 d.lim, .int .i64 d.top, .slice ad d.es.length cap] 28)) w.heap.size 28 [.int .i64 d.lim, .int .i64 d.top, .slice ad d.es.length cap]) := rowIs_new w 28 [.int .i64 d.lim, .int .i64 d.top, .slice ad d.es.length cap]
    go_wp2_with fail
    go_loopw [3, 4] (fun n i wr => ∃ (k : Nat), i = .int .i64 k ∧ k ≤ d.es.length ∧ n = .int .i64 (liveL (d.es.take k)) ∧ Hid (∀ j (hj : j < d.es.length), j < k → entOk d.top d.es[j] = true ∧ (0 < j → (d.es[j - 1]'(by omega)).id < d.es[j].id)) ∧ Hid (RowIs wr w.heap.size 28 [.int .i64 d.lim, .int .i64 d.top, .slice ad d.es.length cap]) ∧ Hid (Below w.heap.size w wr)) (fun _ i _ => d.es.length - (intOf i).toNat)
    case atStart => exact ⟨0, rfl, Nat.zero_le _, rfl, fun j _ hj => absurd hj (Nat.not_lt_zero _), HX, hbx⟩
    case round =>
      clear HX hbx
      obtain ⟨k, rfl, hk, rfl, HC, HX, HB⟩ := hrel
      by_cases hlt : k < d.es.length
      · obtain ⟨b, o, cs, rfl, hbw, rfl, hc⟩ := (HR.out.new HB.out).at k hlt
        have c0 : wr.cell? ⟨b, o + k * 2, none⟩ = some (.int .i64 d.es[k].id) := hc 0 _ rfl
        have c1 : wr.cell? ⟨b, o + k * 2 + 1, none⟩ = some (.int .i64 d.es[k].state) := hc 1 _ rfl
        clear hc
        have x2 := HX.out.cell (j := 2) rfl
        have hlX := HX.out.lt
        have hlk := sum_take lv1 d.es k hlt
        have hll := live_le (d.es.take k)
        have hln := live_nn (d.es.take k)
        have hlk2 : (d.es.take k).length ≤ k := by rw [List.length_take]; omega
        have HLV : Hid (liveL (d.es.take (k + 1)) = liveL (d.es.take k) + lv1 d.es[k]) := hlk
        generalize liveL (d.es.take k) = q at *
        obtain ⟨e, he⟩ : ∃ e, d.es[k] = e := ⟨_, rfl⟩
        rw [he] at c0 c1
        have HE := hide he
        clear he hlk
        go_upto_region 8 with fail
        have hbe : Below wr.heap.size wr (wr.alloc (.cells #[.int .i64 e.id, .int .i64 e.state] 37)) := (Below.refl _ _).alloc (Nat.le_refl _) _
        have hre : RowIs (wr.alloc (.cells #[.int .i64 e.id, .int .i64 e.state] 37)) wr.heap.size 37 [.int .i64 e.id, .int .i64 e.state] := rowIs_new wr 37 [.int .i64 e.id, .int .i64 e.state]
        generalize wr.alloc (.cells #[.int .i64 e.id, .int .i64 e.state] 37) = X at *
        replace HX := hide (HX.out.new hbe)
        replace HB := hide (bchain HB.out hbe)
        have hre0 := hre.cell (j := 0) rfl
        have hre1 := hre.cell (j := 1) rfl
        have hlE := hre.lt
        have hx1 := HX.out.cell (j := 1) rfl
        have hx2 := HX.out.cell (j := 2) rfl
        have hlX2 := HX.out.lt
        generalize wr.heap.size = ge at *
        have qe0 : ∀ y : Later X, y.w.cell? ⟨ge, 0, none⟩ = some (.int .i64 e.id) := fun y => (y.b.cell (p := ⟨ge, 0, none⟩) hlE).trans hre0
        have qe1 : ∀ y : Later X, y.w.cell? ⟨ge, 1, none⟩ = some (.int .i64 e.state) := fun y => (y.b.cell (p := ⟨ge, 1, none⟩) hlE).trans hre1
        have qx1 : ∀ y : Later X, y.w.cell? ⟨w.heap.size, 1, none⟩ = some (.int .i64 d.top) := fun y => (y.b.cell (p := ⟨w.heap.size, 1, none⟩) hlX2).trans hx1
        have qx2 : ∀ y : Later X, y.w.cell? ⟨w.heap.size, 2, none⟩ = some (.slice (some ⟨b, o, none⟩) d.es.length cap) := fun y => (y.b.cell (p := ⟨w.heap.size, 2, none⟩) hlX2).trans hx2
        clear c0 c1 x2 hlX hbe hre hre0 hre1 hx1 hx2
        have hI := fun w => specId e.id w
        have hS := fun w => specIn e.state 1 4 w
        cases hi : idB e.id
        · rw [hi] at hI
          have HF : Hid (A = false) := by
            show A = false
            rw [← HA.out]
            refine ok_false fun c => ?_
            have hck := c.2.2.2.1 k hlt
            rw [HE.out] at hck
            have hek := entOk_iff.1 hck.1
            rw [hi] at hek; simp at hek
          have hne : Nonempty (Later X) := ⟨⟨X, Below.refl _ _⟩⟩; refine region_later (by kernel_rfl) (by kernel_rfl) ?_
          repeat (go_big_quiet_step (fail))
          go_big_quiet_want; go_big_quiet_op; refine ⟨.bool false, fun y => later_same (x := y) (hI y.w), ?_⟩; go_big_quiet_on
          repeat (go_big_quiet_step (fail))
          refine wpQuiet_nil ?_; intro _ hw'; obtain ⟨y, hw''⟩ := hw'; subst hw''; have hby := y.b
          go_wp2_with fail
          go_ret
          exact ⟨by rw [HF.out]; rfl, bchain HB.out hby⟩
        rw [hi] at hI
        by_cases htp : d.top < e.id
        · have HF : Hid (A = false) := by
            show A = false
            rw [← HA.out]
            refine ok_false fun c => ?_
            have hck := c.2.2.2.1 k hlt
            rw [HE.out] at hck
            have hek := entOk_iff.1 hck.1
            omega
          have hne : Nonempty (Later X) := ⟨⟨X, Below.refl _ _⟩⟩; refine region_later (by kernel_rfl) (by kernel_rfl) ?_
          repeat (go_big_quiet_step (fail))
          go_big_quiet_want; go_big_quiet_op; refine ⟨.bool true, fun y => later_same (x := y) (hI y.w), ?_⟩; go_big_quiet_on
          repeat (go_big_quiet_step (fail))
          refine wpQuiet_nil ?_; intro _ hw'; obtain ⟨y, hw''⟩ := hw'; subst hw''; have hby := y.b
          go_wp2_with fail
          go_ret
          exact ⟨by rw [HF.out]; rfl, bchain HB.out hby⟩
        cases hs : inB e.state 1 4
        · rw [hs] at hS
          have HF : Hid (A = false) := by
            show A = false
            rw [← HA.out]
            refine ok_false fun c => ?_
            have hck := c.2.2.2.1 k hlt
            rw [HE.out] at hck
            have hek := entOk_iff.1 hck.1
            exact inB_false hs hek.2.2
          have hne : Nonempty (Later X) := ⟨⟨X, Below.refl _ _⟩⟩; refine region_later (by kernel_rfl) (by kernel_rfl) ?_
          repeat (go_big_quiet_step (fail))
          go_big_quiet_want; go_big_quiet_op; refine ⟨.bool true, fun y => later_same (x := y) (hI y.w), ?_⟩; go_big_quiet_on
          repeat (go_big_quiet_step (fail))
          go_big_quiet_want; go_big_quiet_op; refine ⟨.bool false, fun y => later_same (x := y) (hS y.w), ?_⟩; go_big_quiet_on
          repeat (go_big_quiet_step (fail))
          refine wpQuiet_nil ?_; intro _ hw'; obtain ⟨y, hw''⟩ := hw'; subst hw''; have hby := y.b
          go_wp2_with fail
          go_ret
          exact ⟨by rw [HF.out]; rfl, bchain HB.out hby⟩
        rw [hs] at hS
        have HEK : Hid (entOk d.top d.es[k] = true) := by show _ = true; rw [HE.out]; exact entOk_iff.2 ⟨hi, by omega, inB_true hs⟩
        cases k with
        | zero =>
          have hk0 : decide ((0 : Int) < ((0 : Nat) : Int)) = false := rfl
          have hne : Nonempty (Later X) := ⟨⟨X, Below.refl _ _⟩⟩; refine region_later (by kernel_rfl) (by kernel_rfl) ?_
          repeat (go_big_quiet_step (fail))
          go_big_quiet_want; go_big_quiet_op; refine ⟨.bool true, fun y => later_same (x := y) (hI y.w), ?_⟩; go_big_quiet_on
          repeat (go_big_quiet_step (fail))
          go_big_quiet_want; go_big_quiet_op; refine ⟨.bool true, fun y => later_same (x := y) (hS y.w), ?_⟩; go_big_quiet_on
          repeat (go_big_quiet_step (fail))
          refine wpQuiet_nil ?_; intro _ hw'; obtain ⟨y, hw''⟩ := hw'; subst hw''; have hby := y.b
          have HC2 : Hid (∀ j (hj : j < d.es.length), j < 0 + 1 → entOk d.top d.es[j] = true ∧ (0 < j → (d.es[j - 1]'(by omega)).id < d.es[j].id)) := fun j hj hjk => by
            by_cases ej : j = 0
            · subst ej; exact ⟨HEK.out, fun h => absurd h (Nat.lt_irrefl _)⟩
            · exact HC.out j hj (by omega)
          have qq1 := qe1 y
          have HX2 := hide (HX.out.new hby)
          have HB2 := hide (bchain HB.out hby)
          have hlE2 := Nat.lt_of_lt_of_le hlE hby.size
          clear qe0 qe1 qx1 qx2 hne
          by_cases h4 : e.state = 4
          · have H4 : Hid (lv1 d.es[0] = 0) := by show lv1 _ = 0; unfold lv1; rw [HE.out, if_pos h4]
            have h4' : (e.state != 4) = false := by simp [h4]
            clear h4
            go_wp2_with fail
            go_roundw
            case rel => exact ⟨0 + 1, by go_num, by omega, int_eq (by have := HLV.out; have := H4.out; omega), HC2, HX2, HB2⟩
            case measure => simp [intOf]; omega
          · have H4 : Hid (lv1 d.es[0] = 1) := by show lv1 _ = 1; unfold lv1; rw [HE.out, if_neg h4]
            have h4' : (e.state != 4) = true := by simpa using h4
            clear h4
            go_wp2_with fail
            go_roundw
            case rel => exact ⟨0 + 1, by go_num, by omega, int_eq (by have := HLV.out; have := H4.out; omega), HC2, HX2, HB2⟩
            case measure => simp [intOf]; omega
        | succ k =>
          have hkp : decide ((0 : Int) < ((k + 1 : Nat) : Int)) = true := decide_eq_true (by omega)
          obtain ⟨b', o', cs', hbo, hbw', rfl, hc'⟩ := (HR.out.new HB.out).at k (by omega)
          simp only [Option.some.injEq, Addr.mk.injEq] at hbo
          obtain ⟨rfl, rfl, -⟩ := hbo
          have hp0 : X.cell? ⟨b, o + k * 2, none⟩ = some (.int .i64 (d.es[k]'(by omega)).id) := hc' 0 _ rfl
          clear hc'
          obtain ⟨pe, hpe⟩ : ∃ pe, (d.es[k]'(by omega)).id = pe := ⟨_, rfl⟩
          rw [hpe] at hp0
          have HPE := hide hpe
          clear hpe
          have qp0 : ∀ y : Later X, y.w.cell? ⟨b, o + k * 2, none⟩ = some (.int .i64 pe) := fun y => (y.b.cell (p := ⟨b, o + k * 2, none⟩) hbw').trans hp0
          clear hp0
          by_cases hpr : e.id ≤ pe
          · have HF : Hid (A = false) := by
              show A = false
              rw [← HA.out]
              refine ok_false fun c => ?_
              have hck := c.2.2.2.1 (k + 1) hlt
              rw [HE.out] at hck
              have hek := entOk_iff.1 hck.1
              have h3 := hck.2 (by omega)
              simp only [Nat.add_sub_cancel] at h3
              rw [HPE.out] at h3
              omega
            have hne : Nonempty (Later X) := ⟨⟨X, Below.refl _ _⟩⟩; refine region_later (by kernel_rfl) (by kernel_rfl) ?_
            repeat (go_big_quiet_step (fail))
            go_big_quiet_want; go_big_quiet_op; refine ⟨.bool true, fun y => later_same (x := y) (hI y.w), ?_⟩; go_big_quiet_on
            repeat (go_big_quiet_step (fail))
            go_big_quiet_want; go_big_quiet_op; refine ⟨.bool true, fun y => later_same (x := y) (hS y.w), ?_⟩; go_big_quiet_on
            repeat (go_big_quiet_step (fail))
            refine wpQuiet_nil ?_; intro _ hw'; obtain ⟨y, hw''⟩ := hw'; subst hw''; have hby := y.b
            go_wp2_with fail
            go_ret
            exact ⟨by rw [HF.out]; rfl, bchain HB.out hby⟩
          · have hne : Nonempty (Later X) := ⟨⟨X, Below.refl _ _⟩⟩; refine region_later (by kernel_rfl) (by kernel_rfl) ?_
            repeat (go_big_quiet_step (fail))
            go_big_quiet_want; go_big_quiet_op; refine ⟨.bool true, fun y => later_same (x := y) (hI y.w), ?_⟩; go_big_quiet_on
            repeat (go_big_quiet_step (fail))
            go_big_quiet_want; go_big_quiet_op; refine ⟨.bool true, fun y => later_same (x := y) (hS y.w), ?_⟩; go_big_quiet_on
            repeat (go_big_quiet_step (fail))
            refine wpQuiet_nil ?_; intro _ hw'; obtain ⟨y, hw''⟩ := hw'; subst hw''; have hby := y.b
            have HC2 : Hid (∀ j (hj : j < d.es.length), j < k + 1 + 1 → entOk d.top d.es[j] = true ∧ (0 < j → (d.es[j - 1]'(by omega)).id < d.es[j].id)) := fun j hj hjk => by
              by_cases ej : j = k + 1
              · subst ej; exact ⟨HEK.out, fun h => by have h3 := HPE.out; have h4 := HE.out; simp only [Nat.add_sub_cancel]; rw [h3, h4]; omega⟩
              · exact HC.out j hj (by omega)
            have qq1 := qe1 y
            have HX2 := hide (HX.out.new hby)
            have HB2 := hide (bchain HB.out hby)
            have hlE2 := Nat.lt_of_lt_of_le hlE hby.size
            clear qe0 qe1 qx1 qx2 qp0 hne
            by_cases h4 : e.state = 4
            · have H4 : Hid (lv1 d.es[k + 1] = 0) := by show lv1 _ = 0; unfold lv1; rw [HE.out, if_pos h4]
              have h4' : (e.state != 4) = false := by simp [h4]
              clear h4
              go_wp2_with fail
              go_roundw
              case rel => exact ⟨k + 1 + 1, by go_num, by omega, int_eq (by have := HLV.out; have := H4.out; omega), HC2, HX2, HB2⟩
              case measure => simp [intOf]; omega
            · have H4 : Hid (lv1 d.es[k + 1] = 1) := by show lv1 _ = 1; unfold lv1; rw [HE.out, if_neg h4]
              have h4' : (e.state != 4) = true := by simpa using h4
              clear h4
              go_wp2_with fail
              go_roundw
              case rel => exact ⟨k + 1 + 1, by go_num, by omega, int_eq (by have := HLV.out; have := H4.out; omega), HC2, HX2, HB2⟩
              case measure => simp [intOf]; omega
      · obtain rfl : k = d.es.length := by omega
        rw [List.take_length]
        have x0 := HX.out.cell (j := 0) rfl
        have x2 := HX.out.cell (j := 2) rfl
        have hlX := HX.out.lt
        have HOK : Hid (A = decide (liveL d.es ≤ d.lim)) := by
          show A = _
          rw [← HA.out]
          by_cases hl : liveL d.es ≤ d.lim
          · rw [decide_eq_true hl]; exact okRg_iff.2 ⟨HLIM.out, HTOP.out, by omega, fun j hj => HC.out j hj hj, hl⟩
          · rw [decide_eq_false hl]; exact ok_false fun c => hl c.2.2.2.2
        go_wp2_with fail
        go_ret
        exact ⟨by rw [HOK.out]; rfl, HB.out⟩
  · have HF : Hid (A = false) := by show A = false; rw [← HA.out]; exact ok_false fun c => c.2.1.elim (fun h => by simp [h] at ht1) (fun h => by rw [ht2] at h; cases h)
    rw [ht2] at hid
    go_enter Try.func12, Try.ntmps12; go_wp2_with fail; refine (specIn _ _ _ _).mono ?_; rw [hlim]; rintro e w1 ⟨rfl, hsame⟩; obtain rfl := hsame.symm; clear hsame; go_wp2_with fail
    refine (hid _).mono ?_; rintro e w2 ⟨rfl, hsame⟩; obtain rfl := hsame.symm; clear hsame
    go_wp2_with fail
    go_ret
    exact ⟨by rw [HF.out]; rfl, (by repeat' (first | (with_reducible exact Below.refl _ _) | (with_reducible refine Below.drew ?_) | (with_reducible refine bo_drewN _ ?_) | (with_reducible refine bo_alloc ?_ _) | (refine bchain ?_ (by with_reducible assumption)) | (with_reducible refine Below.setCell ?_ ?_ _) | go_size))⟩
  · rw [ht2] at hid
    go_enter Try.func12, Try.ntmps12; go_wp2_with fail; refine (specIn _ _ _ _).mono ?_; rw [hlim]; rintro e w1 ⟨rfl, hsame⟩; obtain rfl := hsame.symm; clear hsame; go_wp2_with fail
    refine (hid _).mono ?_; rintro e w2 ⟨rfl, hsame⟩; obtain rfl := hsame.symm; clear hsame
    by_cases h60 : (60 : Int) < d.es.length
    · have HF : Hid (A = false) := by show A = false; rw [← HA.out]; exact ok_false fun c => by have := c.2.2.1; omega
      go_wp2_with fail
      go_ret
      exact ⟨by rw [HF.out]; rfl, (by repeat' (first | (with_reducible exact Below.refl _ _) | (with_reducible refine Below.drew ?_) | (with_reducible refine bo_drewN _ ?_) | (with_reducible refine bo_alloc ?_ _) | (refine bchain ?_ (by with_reducible assumption)) | (with_reducible refine Below.setCell ?_ ?_ _) | go_size))⟩
    have HTOP : Hid (d.top = 0 ∨ idB d.top = true) := .inr ht2
    have HLIM := hide (inB_true hlim)
    clear hid
    have hbx : Below w.heap.size w (w.alloc (.cells #[.int .i64 d.lim, .int .i64 d.top, .slice ad d.es.length cap] 28)) := (Below.refl _ _).alloc (Nat.le_refl _) _
    have HX : Hid (RowIs (w.alloc (.cells #[.int .i64 d.lim, .int .i64 d.top, .slice ad d.es.length cap] 28)) w.heap.size 28 [.int .i64 d.lim, .int .i64 d.top, .slice ad d.es.length cap]) := rowIs_new w 28 [.int .i64 d.lim, .int .i64 d.top, .slice ad d.es.length cap]
    go_wp2_with fail
    go_loopw [3, 4] (fun n i wr => ∃ (k : Nat), i = .int .i64 k ∧ k ≤ d.es.length ∧ n = .int .i64 (liveL (d.es.take k)) ∧ Hid (∀ j (hj : j < d.es.length), j < k → entOk d.top d.es[j] = true ∧ (0 < j → (d.es[j - 1]'(by omega)).id < d.es[j].id)) ∧ Hid (RowIs wr w.heap.size 28 [.int .i64 d.lim, .int .i64 d.top, .slice ad d.es.length cap]) ∧ Hid (Below w.heap.size w wr)) (fun _ i _ => d.es.length - (intOf i).toNat)
    case atStart => exact ⟨0, rfl, Nat.zero_le _, rfl, fun j _ hj => absurd hj (Nat.not_lt_zero _), HX, hbx⟩
    case round =>
      clear HX hbx
      obtain ⟨k, rfl, hk, rfl, HC, HX, HB⟩ := hrel
      by_cases hlt : k < d.es.length
      · obtain ⟨b, o, cs, rfl, hbw, rfl, hc⟩ := (HR.out.new HB.out).at k hlt
        have c0 : wr.cell? ⟨b, o + k * 2, none⟩ = some (.int .i64 d.es[k].id) := hc 0 _ rfl
        have c1 : wr.cell? ⟨b, o + k * 2 + 1, none⟩ = some (.int .i64 d.es[k].state) := hc 1 _ rfl
        clear hc
        have x2 := HX.out.cell (j := 2) rfl
        have hlX := HX.out.lt
        have hlk := sum_take lv1 d.es k hlt
        have hll := live_le (d.es.take k)
        have hln := live_nn (d.es.take k)
        have hlk2 : (d.es.take k).length ≤ k := by rw [List.length_take]; omega
        have HLV : Hid (liveL (d.es.take (k + 1)) = liveL (d.es.take k) + lv1 d.es[k]) := hlk
        generalize liveL (d.es.take k) = q at *
        obtain ⟨e, he⟩ : ∃ e, d.es[k] = e := ⟨_, rfl⟩
        rw [he] at c0 c1
        have HE := hide he
        clear he hlk
        go_upto_region 8 with fail
        have hbe : Below wr.heap.size wr (wr.alloc (.cells #[.int .i64 e.id, .int .i64 e.state] 37)) := (Below.refl _ _).alloc (Nat.le_refl _) _
        have hre : RowIs (wr.alloc (.cells #[.int .i64 e.id, .int .i64 e.state] 37)) wr.heap.size 37 [.int .i64 e.id, .int .i64 e.state] := rowIs_new wr 37 [.int .i64 e.id, .int .i64 e.state]
        generalize wr.alloc (.cells #[.int .i64 e.id, .int .i64 e.state] 37) = X at *
        replace HX := hide (HX.out.new hbe)
        replace HB := hide (bchain HB.out hbe)
        have hre0 := hre.cell (j := 0) rfl
        have hre1 := hre.cell (j := 1) rfl
        have hlE := hre.lt
        have hx1 := HX.out.cell (j := 1) rfl
        have hx2 := HX.out.cell (j := 2) rfl
        have hlX2 := HX.out.lt
        generalize wr.heap.size = ge at *
        have qe0 : ∀ y : Later X, y.w.cell? ⟨ge, 0, none⟩ = some (.int .i64 e.id) := fun y => (y.b.cell (p := ⟨ge, 0, none⟩) hlE).trans hre0
        have qe1 : ∀ y : Later X, y.w.cell? ⟨ge, 1, none⟩ = some (.int .i64 e.state) := fun y => (y.b.cell (p := ⟨ge, 1, none⟩) hlE).trans hre1
        have qx1 : ∀ y : Later X, y.w.cell? ⟨w.heap.size, 1, none⟩ = some (.int .i64 d.top) := fun y => (y.b.cell (p := ⟨w.heap.size, 1, none⟩) hlX2).trans hx1
        have qx2 : ∀ y : Later X, y.w.cell? ⟨w.heap.size, 2, none⟩ = some (.slice (some ⟨b, o, none⟩) d.es.length cap) := fun y => (y.b.cell (p := ⟨w.heap.size, 2, none⟩) hlX2).trans hx2
        clear c0 c1 x2 hlX hbe hre hre0 hre1 hx1 hx2
        have hI := fun w => specId e.id w
        have hS := fun w => specIn e.state 1 4 w
        cases hi : idB e.id
        · rw [hi] at hI
          have HF : Hid (A = false) := by
            show A = false
            rw [← HA.out]
            refine ok_false fun c => ?_
            have hck := c.2.2.2.1 k hlt
            rw [HE.out] at hck
            have hek := entOk_iff.1 hck.1
            rw [hi] at hek; simp at hek
          have hne : Nonempty (Later X) := ⟨⟨X, Below.refl _ _⟩⟩; refine region_later (by kernel_rfl) (by kernel_rfl) ?_
          repeat (go_big_quiet_step (fail))
          go_big_quiet_want; go_big_quiet_op; refine ⟨.bool false, fun y => later_same (x := y) (hI y.w), ?_⟩; go_big_quiet_on
          repeat (go_big_quiet_step (fail))
          refine wpQuiet_nil ?_; intro _ hw'; obtain ⟨y, hw''⟩ := hw'; subst hw''; have hby := y.b
          go_wp2_with fail
          go_ret
          exact ⟨by rw [HF.out]; rfl, bchain HB.out hby⟩
        rw [hi] at hI
        by_cases htp : d.top < e.id
        · have HF : Hid (A = false) := by
            show A = false
            rw [← HA.out]
            refine ok_false fun c => ?_
            have hck := c.2.2.2.1 k hlt
            rw [HE.out] at hck
            have hek := entOk_iff.1 hck.1
            omega
          have hne : Nonempty (Later X) := ⟨⟨X, Below.refl _ _⟩⟩; refine region_later (by kernel_rfl) (by kernel_rfl) ?_
          repeat (go_big_quiet_step (fail))
          go_big_quiet_want; go_big_quiet_op; refine ⟨.bool true, fun y => later_same (x := y) (hI y.w), ?_⟩; go_big_quiet_on
          repeat (go_big_quiet_step (fail))
          refine wpQuiet_nil ?_; intro _ hw'; obtain ⟨y, hw''⟩ := hw'; subst hw''; have hby := y.b
          go_wp2_with fail
          go_ret
          exact ⟨by rw [HF.out]; rfl, bchain HB.out hby⟩
        cases hs : inB e.state 1 4
        · rw [hs] at hS
          have HF : Hid (A = false) := by
            show A = false
            rw [← HA.out]
            refine ok_false fun c => ?_
            have hck := c.2.2.2.1 k hlt
            rw [HE.out] at hck
            have hek := entOk_iff.1 hck.1
            exact inB_false hs hek.2.2
          have hne : Nonempty (Later X) := ⟨⟨X, Below.refl _ _⟩⟩; refine region_later (by kernel_rfl) (by kernel_rfl) ?_
          repeat (go_big_quiet_step (fail))
          go_big_quiet_want; go_big_quiet_op; refine ⟨.bool true, fun y => later_same (x := y) (hI y.w), ?_⟩; go_big_quiet_on
          repeat (go_big_quiet_step (fail))
          go_big_quiet_want; go_big_quiet_op; refine ⟨.bool false, fun y => later_same (x := y) (hS y.w), ?_⟩; go_big_quiet_on
          repeat (go_big_quiet_step (fail))
          refine wpQuiet_nil ?_; intro _ hw'; obtain ⟨y, hw''⟩ := hw'; subst hw''; have hby := y.b
          go_wp2_with fail
          go_ret
          exact ⟨by rw [HF.out]; rfl, bchain HB.out hby⟩
        rw [hs] at hS
        have HEK : Hid (entOk d.top d.es[k] = true) := by show _ = true; rw [HE.out]; exact entOk_iff.2 ⟨hi, by omega, inB_true hs⟩
        cases k with
        | zero =>
          have hk0 : decide ((0 : Int) < ((0 : Nat) : Int)) = false := rfl
          have hne : Nonempty (Later X) := ⟨⟨X, Below.refl _ _⟩⟩; refine region_later (by kernel_rfl) (by kernel_rfl) ?_
          repeat (go_big_quiet_step (fail))
          go_big_quiet_want; go_big_quiet_op; refine ⟨.bool true, fun y => later_same (x := y) (hI y.w), ?_⟩; go_big_quiet_on
          repeat (go_big_quiet_step (fail))
          go_big_quiet_want; go_big_quiet_op; refine ⟨.bool true, fun y => later_same (x := y) (hS y.w), ?_⟩; go_big_quiet_on
          repeat (go_big_quiet_step (fail))
          refine wpQuiet_nil ?_; intro _ hw'; obtain ⟨y, hw''⟩ := hw'; subst hw''; have hby := y.b
          have HC2 : Hid (∀ j (hj : j < d.es.length), j < 0 + 1 → entOk d.top d.es[j] = true ∧ (0 < j → (d.es[j - 1]'(by omega)).id < d.es[j].id)) := fun j hj hjk => by
            by_cases ej : j = 0
            · subst ej; exact ⟨HEK.out, fun h => absurd h (Nat.lt_irrefl _)⟩
            · exact HC.out j hj (by omega)
          have qq1 := qe1 y
          have HX2 := hide (HX.out.new hby)
          have HB2 := hide (bchain HB.out hby)
          have hlE2 := Nat.lt_of_lt_of_le hlE hby.size
          clear qe0 qe1 qx1 qx2 hne
          by_cases h4 : e.state = 4
          · have H4 : Hid (lv1 d.es[0] = 0) := by show lv1 _ = 0; unfold lv1; rw [HE.out, if_pos h4]
            have h4' : (e.state != 4) = false := by simp [h4]
            clear h4
            go_wp2_with fail
            go_roundw
            case rel => exact ⟨0 + 1, by go_num, by omega, int_eq (by have := HLV.out; have := H4.out; omega), HC2, HX2, HB2⟩
            case measure => simp [intOf]; omega
          · have H4 : Hid (lv1 d.es[0] = 1) := by show lv1 _ = 1; unfold lv1; rw [HE.out, if_neg h4]
            have h4' : (e.state != 4) = true := by simpa using h4
            clear h4
            go_wp2_with fail
            go_roundw
            case rel => exact ⟨0 + 1, by go_num, by omega, int_eq (by have := HLV.out; have := H4.out; omega), HC2, HX2, HB2⟩
            case measure => simp [intOf]; omega
        | succ k =>
          have hkp : decide ((0 : Int) < ((k + 1 : Nat) : Int)) = true := decide_eq_true (by omega)
          obtain ⟨b', o', cs', hbo, hbw', rfl, hc'⟩ := (HR.out.new HB.out).at k (by omega)
          simp only [Option.some.injEq, Addr.mk.injEq] at hbo
          obtain ⟨rfl, rfl, -⟩ := hbo
          have hp0 : X.cell? ⟨b, o + k * 2, none⟩ = some (.int .i64 (d.es[k]'(by omega)).id) := hc' 0 _ rfl
          clear hc'
          obtain ⟨pe, hpe⟩ : ∃ pe, (d.es[k]'(by omega)).id = pe := ⟨_, rfl⟩
          rw [hpe] at hp0
          have HPE := hide hpe
          clear hpe
          have qp0 : ∀ y : Later X, y.w.cell? ⟨b, o + k * 2, none⟩ = some (.int .i64 pe) := fun y => (y.b.cell (p := ⟨b, o + k * 2, none⟩) hbw').trans hp0
          clear hp0
          by_cases hpr : e.id ≤ pe
          · have HF : Hid (A = false) := by
              show A = false
              rw [← HA.out]
              refine ok_false fun c => ?_
              have hck := c.2.2.2.1 (k + 1) hlt
              rw [HE.out] at hck
              have hek := entOk_iff.1 hck.1
              have h3 := hck.2 (by omega)
              simp only [Nat.add_sub_cancel] at h3
              rw [HPE.out] at h3
              omega
            have hne : Nonempty (Later X) := ⟨⟨X, Below.refl _ _⟩⟩; refine region_later (by kernel_rfl) (by kernel_rfl) ?_
            repeat (go_big_quiet_step (fail))
            go_big_quiet_want; go_big_quiet_op; refine ⟨.bool true, fun y => later_same (x := y) (hI y.w), ?_⟩; go_big_quiet_on
            repeat (go_big_quiet_step (fail))
            go_big_quiet_want; go_big_quiet_op; refine ⟨.bool true, fun y => later_same (x := y) (hS y.w), ?_⟩; go_big_quiet_on
            repeat (go_big_quiet_step (fail))
            refine wpQuiet_nil ?_; intro _ hw'; obtain ⟨y, hw''⟩ := hw'; subst hw''; have hby := y.b
            go_wp2_with fail
            go_ret
            exact ⟨by rw [HF.out]; rfl, bchain HB.out hby⟩
          · have hne : Nonempty (Later X) := ⟨⟨X, Below.refl _ _⟩⟩; refine region_later (by kernel_rfl) (by kernel_rfl) ?_
            repeat (go_big_quiet_step (fail))
            go_big_quiet_want; go_big_quiet_op; refine ⟨.bool true, fun y => later_same (x := y) (hI y.w), ?_⟩; go_big_quiet_on
            repeat (go_big_quiet_step (fail))
            go_big_quiet_want; go_big_quiet_op; refine ⟨.bool true, fun y => later_same (x := y) (hS y.w), ?_⟩; go_big_quiet_on
            repeat (go_big_quiet_step (fail))
            refine wpQuiet_nil ?_; intro _ hw'; obtain ⟨y, hw''⟩ := hw'; subst hw''; have hby := y.b
            have HC2 : Hid (∀ j (hj : j < d.es.length), j < k + 1 + 1 → entOk d.top d.es[j] = true ∧ (0 < j → (d.es[j - 1]'(by omega)).id < d.es[j].id)) := fun j hj hjk => by
              by_cases ej : j = k + 1
              · subst ej; exact ⟨HEK.out, fun h => by have h3 := HPE.out; have h4 := HE.out; simp only [Nat.add_sub_cancel]; rw [h3, h4]; omega⟩
              · exact HC.out j hj (by omega)
            have qq1 := qe1 y
            have HX2 := hide (HX.out.new hby)
            have HB2 := hide (bchain HB.out hby)
            have hlE2 := Nat.lt_of_lt_of_le hlE hby.size
            clear qe0 qe1 qx1 qx2 qp0 hne
            by_cases h4 : e.state = 4
            · have H4 : Hid (lv1 d.es[k + 1] = 0) := by show lv1 _ = 0; unfold lv1; rw [HE.out, if_pos h4]
              have h4' : (e.state != 4) = false := by simp [h4]
              clear h4
              go_wp2_with fail
              go_roundw
              case rel => exact ⟨k + 1 + 1, by go_num, by omega, int_eq (by have := HLV.out; have := H4.out; omega), HC2, HX2, HB2⟩
              case measure => simp [intOf]; omega
            · have H4 : Hid (lv1 d.es[k + 1] = 1) := by show lv1 _ = 1; unfold lv1; rw [HE.out, if_neg h4]
              have h4' : (e.state != 4) = true := by simpa using h4
              clear h4
              go_wp2_with fail
              go_roundw
              case rel => exact ⟨k + 1 + 1, by go_num, by omega, int_eq (by have := HLV.out; have := H4.out; omega), HC2, HX2, HB2⟩
              case measure => simp [intOf]; omega
      · obtain rfl : k = d.es.length := by omega
        rw [List.take_length]
        have x0 := HX.out.cell (j := 0) rfl
        have x2 := HX.out.cell (j := 2) rfl
        have hlX := HX.out.lt
        have HOK : Hid (A = decide (liveL d.es ≤ d.lim)) := by
          show A = _
          rw [← HA.out]
          by_cases hl : liveL d.es ≤ d.lim
          · rw [decide_eq_true hl]; exact okRg_iff.2 ⟨HLIM.out, HTOP.out, by omega, fun j hj => HC.out j hj hj, hl⟩
          · rw [decide_eq_false hl]; exact ok_false fun c => hl c.2.2.2.2
        go_wp2_with fail
        go_ret
        exact ⟨by rw [HOK.out]; rfl, HB.out⟩
end Go.Proofs.Ytgodopiejiajjab
