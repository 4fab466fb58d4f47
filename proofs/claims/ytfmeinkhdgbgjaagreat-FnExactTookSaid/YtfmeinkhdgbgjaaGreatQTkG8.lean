/- Several small texts of one level, one behind the other. -/
import Derived.Test.YtfmeinkhdgbgjaaGreatQTkG7
import Derived.Test.YtfmeinkhdgbgjaaGreatQTkG2
import Derived.Test.YtfmeinkhdgbgjaaGreatQTkG3
import Derived.Test.YtfmeinkhdgbgjaaGreatQTkG5
import Derived.Deep.DeepCutAuto
import Derived.DeepKeys
import Derived.Deep.Cut
import Derived.Deep.RegionHeld3
/- Chapter 10's model, what it asks: odd numbers, how many live, where one is, RegistryOk, StateOf, Live. -/
namespace Go.Proofs.YtfmeinkhdgbgjaaGreat
open Go.RowKit
set_option maxRecDepth 100000
set_option linter.unusedSimpArgs false
set_option linter.unusedVariables false
def ev (L : List EntryD) : List Value := L.flatMap EntryD.cs
theorem ev_get (L : List EntryD) (k : Nat) (h : k < L.length) : (ev L)[k * 2]? = some (.int .i64 L[k].id) ∧ (ev L)[k * 2 + 1]? = some (.int .i64 L[k].state) :=
  ⟨flat_get EntryD.cs 2 (fun _ => rfl) L k h 0 (by decide), flat_get EntryD.cs 2 (fun _ => rfl) L k h 1 (by decide)⟩
theorem ev_one (L : List EntryD) : ∀ u ∈ ev L, u.oneCell' = true := by
  intro u hu
  obtain ⟨f, _, hf⟩ := List.mem_flatMap.1 hu
  simp only [EntryD.cs, List.mem_cons, List.not_mem_nil, or_false] at hf
  rcases hf with rfl | rfl <;> rfl
theorem ev_app (A B : List EntryD) : ev (A ++ B) = ev A ++ ev B := by simp [ev]
theorem ent_flat : ∀ (w : World) (cs : List Value) (d : EntryD), entryS.rd w cs d → cs = EntryD.cs d := fun _ _ _ h => h
theorem rd_ev {w : World} {v : Value} {L : List EntryD} (h : RdR entryS w v L) : Reads w v L.length 2 (ev L) := RdR.flat (E := entryS) ent_flat h
theorem ev_ow {w : World} {lo : Nat} {v : Value} {L : List EntryD} (h : w.ownsRow lo 101 2 v L.length (ev L)) : OwX entryS w lo w.heap.size v L := owX_flat (E := entryS) (f := EntryD.cs) (fun d _ => ⟨rfl, rfl⟩) h
theorem ev_rd {w : World} {v : Value} {L : List EntryD} (h : Reads w v L.length 2 (ev L)) : RdR entryS w v L :=
  ⟨L.map fun d => (d.cs, d), by simp [Function.comp_def], by show Reads w v (L.map _).length 2 _; simpa [List.flatMap_map, ev] using h, fun t ht => by obtain ⟨d, _, rfl⟩ := List.mem_map.1 ht; rfl⟩
def atI (L : List EntryD) (id : Int) : Int := match atE L id with | some k => (k : Int) | none => -1
theorem specId (x : Int) (w : World) : Calls Tryz.prog 122 #[.int .i64 x] w fun e w' => e = .returned (.bool (idB x)) ∧ w' = w := by
  cases h : inB x 1 100000
  · have hv : idB x = false := by unfold idB; refine decide_eq_false fun c => ?_; exact inB_false h ⟨c.1, c.2.1⟩
    rw [hv]
    go_enter Tryz.func122, Tryz.ntmps122
    go_wp2_with fail
    refine (specIn _ _ _ _).mono ?_; rw [h]; rintro e w1 ⟨rfl, hsame⟩; obtain rfl := hsame.symm; clear hsame
    go_wp2_with fail
    go_ret
    exact ⟨rfl, rfl⟩
  · obtain ⟨h0, h1⟩ := inB_true h
    have ht : x.tmod 2 = x % 2 := Int.tmod_eq_emod_of_nonneg (by omega)
    have hv : idB x = decide (x % 2 = 1) := by unfold idB; congr 1; exact propext ⟨fun c => c.2.2, fun c => ⟨h0, h1, c⟩⟩
    rw [hv]
    go_enter Tryz.func122, Tryz.ntmps122
    go_wp2_with fail
    refine (specIn _ _ _ _).mono ?_; rw [h]; rintro e w1 ⟨rfl, hsame⟩; obtain rfl := hsame.symm; clear hsame
    go_wp2_with fail
    go_ret
    exact ⟨by rfl, rfl⟩

set_option maxHeartbeats 1000000 in
theorem specLiveL (d : RegistryD) (v : Value) (w : World) (hr : RdR entryS w v d.es) : Calls Tryz.prog 258 #[.agg #[.int .i64 d.lim, .int .i64 d.top, v]] w fun x w' => x = .returned (.int .i64 (liveL d.es)) ∧ Below w.heap.size w w' := by
  obtain ⟨ad, cap, rfl, h1, h2⟩ := hr.form
  have HR := hide hr
  clear hr
  go_enter Tryz.func258, Tryz.ntmps258
  go_wp2_with fail
  go_loop [3, 4] (fun n i => ∃ (k : Nat), i = .int .i64 k ∧ k ≤ d.es.length ∧ n = .int .i64 (liveL (d.es.take k))) (fun _ i => d.es.length - (intOf i).toNat)
  case atStart => exact ⟨0, rfl, Nat.zero_le _, rfl⟩
  case round =>
    obtain ⟨k, rfl, hk, rfl⟩ := hrel
    by_cases hlt : k < d.es.length
    · have hbx : Below w.heap.size w (w.alloc (.cells #[.int .i64 d.lim, .int .i64 d.top, .slice ad d.es.length cap] 26)) := (Below.refl _ _).alloc (Nat.le_refl _) _
      obtain ⟨b, o, cs, rfl, hbw, rfl, hc⟩ := HR.out.at k hlt
      have c1 : w.cell? ⟨b, o + k * 2 + 1, none⟩ = some (.int .i64 d.es[k].state) := hc 1 _ rfl
      clear hc
      have hlk := sum_take lv1 d.es k hlt
      have hll := live_le (d.es.take k)
      have hln := live_nn (d.es.take k)
      have hlk2 : (d.es.take k).length ≤ k := by rw [List.length_take]; omega
      have HK : Hid (liveL (d.es.take (k + 1)) = liveL (d.es.take k) + lv1 d.es[k]) := hlk
      generalize liveL (d.es.take k) = q at *
      obtain ⟨s, hs⟩ : ∃ s, d.es[k].state = s := ⟨_, rfl⟩
      rw [hs] at c1
      have HS := hide hs
      clear hs hlk hbx
      by_cases h4 : s = 4
      · have H4 : Hid (lv1 d.es[k] = 0) := by show lv1 _ = 0; unfold lv1; rw [HS.out, if_pos h4]
        subst h4
        go_wp2_with fail
        go_round
        case rel => exact ⟨k + 1, by go_num, by omega, int_eq (by have := HK.out; have := H4.out; omega)⟩
        case measure => simp [intOf]; omega
      · have H4 : Hid (lv1 d.es[k] = 1) := by show lv1 _ = 1; unfold lv1; rw [HS.out, if_neg h4]
        have h4' : (s != 4) = true := by simpa using h4
        clear h4
        go_wp2_with fail
        go_round
        case rel => exact ⟨k + 1, by go_num, by omega, int_eq (by have := HK.out; have := H4.out; omega)⟩
        case measure => simp [intOf]; omega
    · obtain rfl : k = d.es.length := by omega
      rw [List.take_length]
      go_wp2_with fail
      go_ret
      exact ⟨rfl, (by repeat' (first | (with_reducible exact Below.refl _ _) | (with_reducible refine Below.drew ?_) | (with_reducible refine bo_drewN _ ?_) | (with_reducible refine bo_alloc ?_ _) | (refine bchain ?_ (by with_reducible assumption)) | (with_reducible refine Below.setCell ?_ ?_ _) | go_size))⟩
theorem atI_none {L : List EntryD} {id : Int} (h : ∀ e ∈ L, e.id ≠ id) : atI L id = -1 := by unfold atI; rw [atE_no h]
theorem atI_some {L : List EntryD} {id : Int} {k : Nat} (h : atE L id = some k) : atI L id = k := by unfold atI; rw [h]
set_option maxHeartbeats 1000000 in
theorem specAt (d : RegistryD) (id : Int) (v : Value) (w : World) (hr : RdR entryS w v d.es) : Calls Tryz.prog 120 #[.agg #[.int .i64 d.lim, .int .i64 d.top, v], .int .i64 id] w fun x w' => x = .returned (.int .i64 (atI d.es id)) ∧ Below w.heap.size w w' := by
  obtain ⟨ad, cap, rfl, h1, h2⟩ := hr.form
  have HR := hide hr
  clear hr
  obtain ⟨A, hA⟩ : ∃ A, atI d.es id = A := ⟨_, rfl⟩
  rw [hA]
  have HA := hide hA
  clear hA
  go_enter Tryz.func120, Tryz.ntmps120
  go_wp2_with fail
  go_loop [5] (fun i => ∃ (k : Nat), i = .int .i64 k ∧ k ≤ d.es.length ∧ Hid (∀ j (hj : j < d.es.length), j < k → d.es[j].id ≠ id)) (fun i => d.es.length - (intOf i).toNat)
  case atStart => exact ⟨0, rfl, Nat.zero_le _, fun j _ hj => absurd hj (Nat.not_lt_zero _)⟩
  case round =>
    obtain ⟨k, rfl, hk, HN⟩ := hrel
    by_cases hlt : k < d.es.length
    · obtain ⟨b, o, cs, rfl, hbw, rfl, hc⟩ := HR.out.at k hlt
      have c0 : w.cell? ⟨b, o + k * 2, none⟩ = some (.int .i64 d.es[k].id) := hc 0 _ rfl
      clear hc
      obtain ⟨s, hs⟩ : ∃ s, d.es[k].id = s := ⟨_, rfl⟩
      rw [hs] at c0
      have HS := hide hs
      clear hs
      by_cases h4 : s = id
      · subst h4
        have HF : Hid (A = k) := by show A = k; rw [← HA.out]; exact atI_some (atE_of k hlt HS.out fun j hj => HN.out j (by omega) hj)
        go_wp2_with fail
        go_ret
        exact ⟨by rw [HF.out]; rfl, (by repeat' (first | (with_reducible exact Below.refl _ _) | (with_reducible refine Below.drew ?_) | (with_reducible refine bo_drewN _ ?_) | (with_reducible refine bo_alloc ?_ _) | (refine bchain ?_ (by with_reducible assumption)) | (with_reducible refine Below.setCell ?_ ?_ _) | go_size))⟩
      · have h4' : (s == id) = false := by simpa using h4
        have HN2 : Hid (∀ j (hj : j < d.es.length), j < k + 1 → d.es[j].id ≠ id) := fun j hj hjk => by
          by_cases e : j = k
          · subst e; rw [HS.out]; exact h4
          · exact HN.out j hj (by omega)
        clear h4
        go_wp2_with fail
        go_round
        case rel => exact ⟨k + 1, by go_num, by omega, HN2⟩
        case measure => simp [intOf]; omega
    · have HF : Hid (A = -1) := by
        show A = -1
        rw [← HA.out]
        refine atI_none fun e he => ?_
        obtain ⟨j, hj, rfl⟩ := List.mem_iff_getElem.1 he
        exact HN.out j hj (by omega)
      go_wp2_with fail
      go_ret
      exact ⟨by rw [HF.out]; rfl, (by repeat' (first | (with_reducible exact Below.refl _ _) | (with_reducible refine Below.drew ?_) | (with_reducible refine bo_drewN _ ?_) | (with_reducible refine bo_alloc ?_ _) | (refine bchain ?_ (by with_reducible assumption)) | (with_reducible refine Below.setCell ?_ ?_ _) | go_size))⟩
theorem ok_false {d : RegistryD} (h : ¬ ((0 ≤ d.lim ∧ d.lim ≤ 20) ∧ (d.top = 0 ∨ idB d.top = true) ∧ d.es.length ≤ 60 ∧ (∀ i (h : i < d.es.length), entOk d.top d.es[i] = true ∧ (0 < i → (d.es[i - 1]'(by omega)).id < d.es[i].id)) ∧ liveL d.es ≤ d.lim)) : okRg d = false := by
  cases hq : okRg d
  · rfl
  · exact absurd (okRg_iff.1 hq) h
set_option maxHeartbeats 4000000 in
theorem specRegistryOk (d : RegistryD) (v : Value) (w : World) (hr : RdR entryS w v d.es) : Calls Tryz.prog 52 #[.agg #[.int .i64 d.lim, .int .i64 d.top, v]] w fun x w' => x = .returned (.bool (okRg d)) ∧ Below w.heap.size w w' := by
  obtain ⟨ad, cap, rfl, h1, h2⟩ := hr.form
  have HR := hide hr
  clear hr
  obtain ⟨A, hA⟩ : ∃ A, okRg d = A := ⟨_, rfl⟩
  rw [hA]
  have HA := hide hA
  clear hA
  cases hlim : inB d.lim 0 20
  · have HF : Hid (A = false) := by show A = false; rw [← HA.out]; exact ok_false fun c => inB_false hlim c.1
    go_enter Tryz.func52, Tryz.ntmps52; go_wp2_with fail; refine (specIn _ _ _ _).mono ?_; rw [hlim]; rintro e w1 ⟨rfl, hsame⟩; obtain rfl := hsame.symm; clear hsame; go_wp2_with fail
    go_ret
    exact ⟨by rw [HF.out]; rfl, (by repeat' (first | (with_reducible exact Below.refl _ _) | (with_reducible refine Below.drew ?_) | (with_reducible refine bo_drewN _ ?_) | (with_reducible refine bo_alloc ?_ _) | (refine bchain ?_ (by with_reducible assumption)) | (with_reducible refine Below.setCell ?_ ?_ _) | go_size))⟩
  have htc : (d.top = 0 ∧ (d.top != 0) = false) ∨ ((d.top != 0) = true ∧ idB d.top = false) ∨ ((d.top != 0) = true ∧ idB d.top = true) := by
    by_cases h : d.top = 0
    · exact .inl ⟨h, by simp [h]⟩
    · cases hq : idB d.top
      · exact .inr (.inl ⟨by simpa using h, rfl⟩)
      · exact .inr (.inr ⟨by simpa using h, rfl⟩)
  have hid := fun w => specId d.top w
  rcases htc with ⟨ht0, ht1⟩ | ⟨ht1, ht2⟩ | ⟨ht1, ht2⟩
  · have HT0 := hide ht0
    clear ht0
    go_enter Tryz.func52, Tryz.ntmps52
    go_wp2_with fail
    refine (specIn _ _ _ _).mono ?_; rw [hlim]; rintro e w1 ⟨rfl, hsame⟩; obtain rfl := hsame.symm; clear hsame
    by_cases h60 : (60 : Int) < d.es.length
    · have HF : Hid (A = false) := by show A = false; rw [← HA.out]; exact ok_false fun c => by have := c.2.2.1; omega
      go_wp2_with fail
      go_ret
      exact ⟨by rw [HF.out]; rfl, (by repeat' (first | (with_reducible exact Below.refl _ _) | (with_reducible refine Below.drew ?_) | (with_reducible refine bo_drewN _ ?_) | (with_reducible refine bo_alloc ?_ _) | (refine bchain ?_ (by with_reducible assumption)) | (with_reducible refine Below.setCell ?_ ?_ _) | go_size))⟩
    have HTOP : Hid (d.top = 0 ∨ idB d.top = true) := .inl HT0.out
    have HLIM := hide (inB_true hlim)
    clear hid
    have hbx : Below w.heap.size w (w.alloc (.cells #[.int .i64 d.lim, .int .i64 d.top, .slice ad d.es.length cap] 26)) := (Below.refl _ _).alloc (Nat.le_refl _) _
    have HX : Hid (RowIs (w.alloc (.cells #[.int .i64 d.lim, .int .i64 d.top, .slice ad d.es.length cap] 26)) w.heap.size 26 [.int .i64 d.lim, .int .i64 d.top, .slice ad d.es.length cap]) := rowIs_new w 26 [.int .i64 d.lim, .int .i64 d.top, .slice ad d.es.length cap]
    go_wp2_with fail
    go_loopw [3, 4] (fun n i wr => ∃ (k : Nat), i = .int .i64 k ∧ k ≤ d.es.length ∧ n = .int .i64 (liveL (d.es.take k)) ∧ Hid (∀ j (hj : j < d.es.length), j < k → entOk d.top d.es[j] = true ∧ (0 < j → (d.es[j - 1]'(by omega)).id < d.es[j].id)) ∧ Hid (RowIs wr w.heap.size 26 [.int .i64 d.lim, .int .i64 d.top, .slice ad d.es.length cap]) ∧ Hid (Below w.heap.size w wr)) (fun _ i _ => d.es.length - (intOf i).toNat)
    case atStart => exact ⟨0, rfl, Nat.zero_le _, rfl, fun j _ hj => absurd hj (Nat.not_lt_zero _), HX, hbx⟩
    case round =>
      clear HX hbx
      obtain ⟨k, rfl, hk, rfl, HC, HX, HB⟩ := hrel
      by_cases hlt : k < d.es.length
      · obtain ⟨b, o, cs, rfl, hbw, rfl, hc⟩ := (HR.out.new HB.out).at k hlt
        have c0 : wr.cell? ⟨b, o + k * 2, none⟩ = some (.int .i64 d.es[k].id) := hc 0 _ rfl
        have c1 : wr.cell? ⟨b, o + k * 2 + 1, none⟩ = some (.int .i64 d.es[k].state) := hc 1 _ rfl
        clear hc
        have x2 := HX.out.cell (j := 2) rfl
        have hlX := HX.out.lt
        have hlk := sum_take lv1 d.es k hlt
        have hll := live_le (d.es.take k)
        have hln := live_nn (d.es.take k)
        have hlk2 : (d.es.take k).length ≤ k := by rw [List.length_take]; omega
        have HLV : Hid (liveL (d.es.take (k + 1)) = liveL (d.es.take k) + lv1 d.es[k]) := hlk
        generalize liveL (d.es.take k) = q at *
        obtain ⟨e, he⟩ : ∃ e, d.es[k] = e := ⟨_, rfl⟩
        rw [he] at c0 c1
        have HE := hide he
        clear he hlk
        go_upto_region 8 with fail
        have hbe : Below wr.heap.size wr (wr.alloc (.cells #[.int .i64 e.id, .int .i64 e.state] 101)) := (Below.refl _ _).alloc (Nat.le_refl _) _
        have hre : RowIs (wr.alloc (.cells #[.int .i64 e.id, .int .i64 e.state] 101)) wr.heap.size 101 [.int .i64 e.id, .int .i64 e.state] := rowIs_new wr 101 [.int .i64 e.id, .int .i64 e.state]
        generalize wr.alloc (.cells #[.int .i64 e.id, .int .i64 e.state] 101) = X at *
        replace HX := hide (HX.out.new hbe)
        replace HB := hide (bchain HB.out hbe)
        have hre0 := hre.cell (j := 0) rfl
        have hre1 := hre.cell (j := 1) rfl
        have hlE := hre.lt
        have hx1 := HX.out.cell (j := 1) rfl
        have hx2 := HX.out.cell (j := 2) rfl
        have hlX2 := HX.out.lt
        generalize wr.heap.size = ge at *
        have qe0 : ∀ y : Later X, y.w.cell? ⟨ge, 0, none⟩ = some (.int .i64 e.id) := fun y => (y.b.cell (p := ⟨ge, 0, none⟩) hlE).trans hre0
        have qe1 : ∀ y : Later X, y.w.cell? ⟨ge, 1, none⟩ = some (.int .i64 e.state) := fun y => (y.b.cell (p := ⟨ge, 1, none⟩) hlE).trans hre1
        have qx1 : ∀ y : Later X, y.w.cell? ⟨w.heap.size, 1, none⟩ = some (.int .i64 d.top) := fun y => (y.b.cell (p := ⟨w.heap.size, 1, none⟩) hlX2).trans hx1
        have qx2 : ∀ y : Later X, y.w.cell? ⟨w.heap.size, 2, none⟩ = some (.slice (some ⟨b, o, none⟩) d.es.length cap) := fun y => (y.b.cell (p := ⟨w.heap.size, 2, none⟩) hlX2).trans hx2
        clear c0 c1 x2 hlX hbe hre hre0 hre1 hx1 hx2
        have hI := fun w => specId e.id w
        have hS := fun w => specIn e.state 1 4 w
        cases hi : idB e.id
        · rw [hi] at hI
          have HF : Hid (A = false) := by
            show A = false
            rw [← HA.out]
            refine ok_false fun c => ?_
            have hck := c.2.2.2.1 k hlt
            rw [HE.out] at hck
            have hek := entOk_iff.1 hck.1
            rw [hi] at hek; simp at hek
          have hne : Nonempty (Later X) := ⟨⟨X, Below.refl _ _⟩⟩; refine region_later (by kernel_rfl) (by kernel_rfl) ?_
          repeat (go_big_quiet_step (fail))
          go_big_quiet_want; go_big_quiet_op; refine ⟨.bool false, fun y => later_same (x := y) (hI y.w), ?_⟩; go_big_quiet_on
          repeat (go_big_quiet_step (fail))
          refine wpQuiet_nil ?_; intro _ hw'; obtain ⟨y, hw''⟩ := hw'; subst hw''; have hby := y.b
          go_wp2_with fail
          go_ret
          exact ⟨by rw [HF.out]; rfl, bchain HB.out hby⟩
        rw [hi] at hI
        by_cases htp : d.top < e.id
        · have HF : Hid (A = false) := by
            show A = false
            rw [← HA.out]
            refine ok_false fun c => ?_
            have hck := c.2.2.2.1 k hlt
            rw [HE.out] at hck
            have hek := entOk_iff.1 hck.1
            omega
          have hne : Nonempty (Later X) := ⟨⟨X, Below.refl _ _⟩⟩; refine region_later (by kernel_rfl) (by kernel_rfl) ?_
          repeat (go_big_quiet_step (fail))
          go_big_quiet_want; go_big_quiet_op; refine ⟨.bool true, fun y => later_same (x := y) (hI y.w), ?_⟩; go_big_quiet_on
          repeat (go_big_quiet_step (fail))
          refine wpQuiet_nil ?_; intro _ hw'; obtain ⟨y, hw''⟩ := hw'; subst hw''; have hby := y.b
          go_wp2_with fail
          go_ret
          exact ⟨by rw [HF.out]; rfl, bchain HB.out hby⟩
        cases hs : inB e.state 1 4
        · rw [hs] at hS
          have HF : Hid (A = false) := by
            show A = false
            rw [← HA.out]
            refine ok_false fun c => ?_
            have hck := c.2.2.2.1 k hlt
            rw [HE.out] at hck
            have hek := entOk_iff.1 hck.1
            exact inB_false hs hek.2.2
          have hne : Nonempty (Later X) := ⟨⟨X, Below.refl _ _⟩⟩; refine region_later (by kernel_rfl) (by kernel_rfl) ?_
          repeat (go_big_quiet_step (fail))
          go_big_quiet_want; go_big_quiet_op; refine ⟨.bool true, fun y => later_same (x := y) (hI y.w), ?_⟩; go_big_quiet_on
          repeat (go_big_quiet_step (fail))
          go_big_quiet_want; go_big_quiet_op; refine ⟨.bool false, fun y => later_same (x := y) (hS y.w), ?_⟩; go_big_quiet_on
          repeat (go_big_quiet_step (fail))
          refine wpQuiet_nil ?_; intro _ hw'; obtain ⟨y, hw''⟩ := hw'; subst hw''; have hby := y.b
          go_wp2_with fail
          go_ret
          exact ⟨by rw [HF.out]; rfl, bchain HB.out hby⟩
        rw [hs] at hS
        have HEK : Hid (entOk d.top d.es[k] = true) := by show _ = true; rw [HE.out]; exact entOk_iff.2 ⟨hi, by omega, inB_true hs⟩
        cases k with
        | zero =>
          have hk0 : decide ((0 : Int) < ((0 : Nat) : Int)) = false := rfl
          have hne : Nonempty (Later X) := ⟨⟨X, Below.refl _ _⟩⟩; refine region_later (by kernel_rfl) (by kernel_rfl) ?_
          repeat (go_big_quiet_step (fail))
          go_big_quiet_want; go_big_quiet_op; refine ⟨.bool true, fun y => later_same (x := y) (hI y.w), ?_⟩; go_big_quiet_on
          repeat (go_big_quiet_step (fail))
          go_big_quiet_want; go_big_quiet_op; refine ⟨.bool true, fun y => later_same (x := y) (hS y.w), ?_⟩; go_big_quiet_on
          repeat (go_big_quiet_step (fail))
          refine wpQuiet_nil ?_; intro _ hw'; obtain ⟨y, hw''⟩ := hw'; subst hw''; have hby := y.b
          have HC2 : Hid (∀ j (hj : j < d.es.length), j < 0 + 1 → entOk d.top d.es[j] = true ∧ (0 < j → (d.es[j - 1]'(by omega)).id < d.es[j].id)) := fun j hj hjk => by
            by_cases ej : j = 0
            · subst ej; exact ⟨HEK.out, fun h => absurd h (Nat.lt_irrefl _)⟩
            · exact HC.out j hj (by omega)
          have qq1 := qe1 y
          have HX2 := hide (HX.out.new hby)
          have HB2 := hide (bchain HB.out hby)
          have hlE2 := Nat.lt_of_lt_of_le hlE hby.size
          clear qe0 qe1 qx1 qx2 hne
          by_cases h4 : e.state = 4
          · have H4 : Hid (lv1 d.es[0] = 0) := by show lv1 _ = 0; unfold lv1; rw [HE.out, if_pos h4]
            have h4' : (e.state != 4) = false := by simp [h4]
            clear h4
            go_wp2_with fail
            go_roundw
            case rel => exact ⟨0 + 1, by go_num, by omega, int_eq (by have := HLV.out; have := H4.out; omega), HC2, HX2, HB2⟩
            case measure => simp [intOf]; omega
          · have H4 : Hid (lv1 d.es[0] = 1) := by show lv1 _ = 1; unfold lv1; rw [HE.out, if_neg h4]
            have h4' : (e.state != 4) = true := by simpa using h4
            clear h4
            go_wp2_with fail
            go_roundw
            case rel => exact ⟨0 + 1, by go_num, by omega, int_eq (by have := HLV.out; have := H4.out; omega), HC2, HX2, HB2⟩
            case measure => simp [intOf]; omega
        | succ k =>
          have hkp : decide ((0 : Int) < ((k + 1 : Nat) : Int)) = true := decide_eq_true (by omega)
          obtain ⟨b', o', cs', hbo, hbw', rfl, hc'⟩ := (HR.out.new HB.out).at k (by omega)
          simp only [Option.some.injEq, Addr.mk.injEq] at hbo
          obtain ⟨rfl, rfl, -⟩ := hbo
          have hp0 : X.cell? ⟨b, o + k * 2, none⟩ = some (.int .i64 (d.es[k]'(by omega)).id) := hc' 0 _ rfl
          clear hc'
          obtain ⟨pe, hpe⟩ : ∃ pe, (d.es[k]'(by omega)).id = pe := ⟨_, rfl⟩
          rw [hpe] at hp0
          have HPE := hide hpe
          clear hpe
          have qp0 : ∀ y : Later X, y.w.cell? ⟨b, o + k * 2, none⟩ = some (.int .i64 pe) := fun y => (y.b.cell (p := ⟨b, o + k * 2, none⟩) hbw').trans hp0
          clear hp0
          by_cases hpr : e.id ≤ pe
          · have HF : Hid (A = false) := by
              show A = false
              rw [← HA.out]
              refine ok_false fun c => ?_
              have hck := c.2.2.2.1 (k + 1) hlt
              rw [HE.out] at hck
              have hek := entOk_iff.1 hck.1
              have h3 := hck.2 (by omega)
              simp only [Nat.add_sub_cancel] at h3
              rw [HPE.out] at h3
              omega
            have hne : Nonempty (Later X) := ⟨⟨X, Below.refl _ _⟩⟩; refine region_later (by kernel_rfl) (by kernel_rfl) ?_
            repeat (go_big_quiet_step (fail))
            go_big_quiet_want; go_big_quiet_op; refine ⟨.bool true, fun y => later_same (x := y) (hI y.w), ?_⟩; go_big_quiet_on
            repeat (go_big_quiet_step (fail))
            go_big_quiet_want; go_big_quiet_op; refine ⟨.bool true, fun y => later_same (x := y) (hS y.w), ?_⟩; go_big_quiet_on
            repeat (go_big_quiet_step (fail))
            refine wpQuiet_nil ?_; intro _ hw'; obtain ⟨y, hw''⟩ := hw'; subst hw''; have hby := y.b
            go_wp2_with fail
            go_ret
            exact ⟨by rw [HF.out]; rfl, bchain HB.out hby⟩
          · have hne : Nonempty (Later X) := ⟨⟨X, Below.refl _ _⟩⟩; refine region_later (by kernel_rfl) (by kernel_rfl) ?_
            repeat (go_big_quiet_step (fail))
            go_big_quiet_want; go_big_quiet_op; refine ⟨.bool true, fun y => later_same (x := y) (hI y.w), ?_⟩; go_big_quiet_on
            repeat (go_big_quiet_step (fail))
            go_big_quiet_want; go_big_quiet_op; refine ⟨.bool true, fun y => later_same (x := y) (hS y.w), ?_⟩; go_big_quiet_on
            repeat (go_big_quiet_step (fail))
            refine wpQuiet_nil ?_; intro _ hw'; obtain ⟨y, hw''⟩ := hw'; subst hw''; have hby := y.b
            have HC2 : Hid (∀ j (hj : j < d.es.length), j < k + 1 + 1 → entOk d.top d.es[j] = true ∧ (0 < j → (d.es[j - 1]'(by omega)).id < d.es[j].id)) := fun j hj hjk => by
              by_cases ej : j = k + 1
              · subst ej; exact ⟨HEK.out, fun h => by have h3 := HPE.out; have h4 := HE.out; simp only [Nat.add_sub_cancel]; rw [h3, h4]; omega⟩
              · exact HC.out j hj (by omega)
            have qq1 := qe1 y
            have HX2 := hide (HX.out.new hby)
            have HB2 := hide (bchain HB.out hby)
            have hlE2 := Nat.lt_of_lt_of_le hlE hby.size
            clear qe0 qe1 qx1 qx2 qp0 hne
            by_cases h4 : e.state = 4
            · have H4 : Hid (lv1 d.es[k + 1] = 0) := by show lv1 _ = 0; unfold lv1; rw [HE.out, if_pos h4]
              have h4' : (e.state != 4) = false := by simp [h4]
              clear h4
              go_wp2_with fail
              go_roundw
              case rel => exact ⟨k + 1 + 1, by go_num, by omega, int_eq (by have := HLV.out; have := H4.out; omega), HC2, HX2, HB2⟩
              case measure => simp [intOf]; omega
            · have H4 : Hid (lv1 d.es[k + 1] = 1) := by show lv1 _ = 1; unfold lv1; rw [HE.out, if_neg h4]
              have h4' : (e.state != 4) = true := by simpa using h4
              clear h4
              go_wp2_with fail
              go_roundw
              case rel => exact ⟨k + 1 + 1, by go_num, by omega, int_eq (by have := HLV.out; have := H4.out; omega), HC2, HX2, HB2⟩
              case measure => simp [intOf]; omega
      · obtain rfl : k = d.es.length := by omega
        rw [List.take_length]
        have x0 := HX.out.cell (j := 0) rfl
        have x2 := HX.out.cell (j := 2) rfl
        have hlX := HX.out.lt
        have HOK : Hid (A = decide (liveL d.es ≤ d.lim)) := by
          show A = _
          rw [← HA.out]
          by_cases hl : liveL d.es ≤ d.lim
          · rw [decide_eq_true hl]; exact okRg_iff.2 ⟨HLIM.out, HTOP.out, by omega, fun j hj => HC.out j hj hj, hl⟩
          · rw [decide_eq_false hl]; exact ok_false fun c => hl c.2.2.2.2
        go_wp2_with fail
        go_ret
        exact ⟨by rw [HOK.out]; rfl, HB.out⟩
  · have HF : Hid (A = false) := by show A = false; rw [← HA.out]; exact ok_false fun c => c.2.1.elim (fun h => by simp [h] at ht1) (fun h => by rw [ht2] at h; cases h)
    rw [ht2] at hid
    go_enter Tryz.func52, Tryz.ntmps52; go_wp2_with fail; refine (specIn _ _ _ _).mono ?_; rw [hlim]; rintro e w1 ⟨rfl, hsame⟩; obtain rfl := hsame.symm; clear hsame; go_wp2_with fail
    refine (hid _).mono ?_; rintro e w2 ⟨rfl, hsame⟩; obtain rfl := hsame.symm; clear hsame
    go_wp2_with fail
    go_ret
    exact ⟨by rw [HF.out]; rfl, (by repeat' (first | (with_reducible exact Below.refl _ _) | (with_reducible refine Below.drew ?_) | (with_reducible refine bo_drewN _ ?_) | (with_reducible refine bo_alloc ?_ _) | (refine bchain ?_ (by with_reducible assumption)) | (with_reducible refine Below.setCell ?_ ?_ _) | go_size))⟩
  · rw [ht2] at hid
    go_enter Tryz.func52, Tryz.ntmps52; go_wp2_with fail; refine (specIn _ _ _ _).mono ?_; rw [hlim]; rintro e w1 ⟨rfl, hsame⟩; obtain rfl := hsame.symm; clear hsame; go_wp2_with fail
    refine (hid _).mono ?_; rintro e w2 ⟨rfl, hsame⟩; obtain rfl := hsame.symm; clear hsame
    by_cases h60 : (60 : Int) < d.es.length
    · have HF : Hid (A = false) := by show A = false; rw [← HA.out]; exact ok_false fun c => by have := c.2.2.1; omega
      go_wp2_with fail
      go_ret
      exact ⟨by rw [HF.out]; rfl, (by repeat' (first | (with_reducible exact Below.refl _ _) | (with_reducible refine Below.drew ?_) | (with_reducible refine bo_drewN _ ?_) | (with_reducible refine bo_alloc ?_ _) | (refine bchain ?_ (by with_reducible assumption)) | (with_reducible refine Below.setCell ?_ ?_ _) | go_size))⟩
    have HTOP : Hid (d.top = 0 ∨ idB d.top = true) := .inr ht2
    have HLIM := hide (inB_true hlim)
    clear hid
    have hbx : Below w.heap.size w (w.alloc (.cells #[.int .i64 d.lim, .int .i64 d.top, .slice ad d.es.length cap] 26)) := (Below.refl _ _).alloc (Nat.le_refl _) _
    have HX : Hid (RowIs (w.alloc (.cells #[.int .i64 d.lim, .int .i64 d.top, .slice ad d.es.length cap] 26)) w.heap.size 26 [.int .i64 d.lim, .int .i64 d.top, .slice ad d.es.length cap]) := rowIs_new w 26 [.int .i64 d.lim, .int .i64 d.top, .slice ad d.es.length cap]
    go_wp2_with fail
    go_loopw [3, 4] (fun n i wr => ∃ (k : Nat), i = .int .i64 k ∧ k ≤ d.es.length ∧ n = .int .i64 (liveL (d.es.take k)) ∧ Hid (∀ j (hj : j < d.es.length), j < k → entOk d.top d.es[j] = true ∧ (0 < j → (d.es[j - 1]'(by omega)).id < d.es[j].id)) ∧ Hid (RowIs wr w.heap.size 26 [.int .i64 d.lim, .int .i64 d.top, .slice ad d.es.length cap]) ∧ Hid (Below w.heap.size w wr)) (fun _ i _ => d.es.length - (intOf i).toNat)
    case atStart => exact ⟨0, rfl, Nat.zero_le _, rfl, fun j _ hj => absurd hj (Nat.not_lt_zero _), HX, hbx⟩
    case round =>
      clear HX hbx
      obtain ⟨k, rfl, hk, rfl, HC, HX, HB⟩ := hrel
      by_cases hlt : k < d.es.length
      · obtain ⟨b, o, cs, rfl, hbw, rfl, hc⟩ := (HR.out.new HB.out).at k hlt
        have c0 : wr.cell? ⟨b, o + k * 2, none⟩ = some (.int .i64 d.es[k].id) := hc 0 _ rfl
        have c1 : wr.cell? ⟨b, o + k * 2 + 1, none⟩ = some (.int .i64 d.es[k].state) := hc 1 _ rfl
        clear hc
        have x2 := HX.out.cell (j := 2) rfl
        have hlX := HX.out.lt
        have hlk := sum_take lv1 d.es k hlt
        have hll := live_le (d.es.take k)
        have hln := live_nn (d.es.take k)
        have hlk2 : (d.es.take k).length ≤ k := by rw [List.length_take]; omega
        have HLV : Hid (liveL (d.es.take (k + 1)) = liveL (d.es.take k) + lv1 d.es[k]) := hlk
        generalize liveL (d.es.take k) = q at *
        obtain ⟨e, he⟩ : ∃ e, d.es[k] = e := ⟨_, rfl⟩
        rw [he] at c0 c1
        have HE := hide he
        clear he hlk
        go_upto_region 8 with fail
        have hbe : Below wr.heap.size wr (wr.alloc (.cells #[.int .i64 e.id, .int .i64 e.state] 101)) := (Below.refl _ _).alloc (Nat.le_refl _) _
        have hre : RowIs (wr.alloc (.cells #[.int .i64 e.id, .int .i64 e.state] 101)) wr.heap.size 101 [.int .i64 e.id, .int .i64 e.state] := rowIs_new wr 101 [.int .i64 e.id, .int .i64 e.state]
        generalize wr.alloc (.cells #[.int .i64 e.id, .int .i64 e.state] 101) = X at *
        replace HX := hide (HX.out.new hbe)
        replace HB := hide (bchain HB.out hbe)
        have hre0 := hre.cell (j := 0) rfl
        have hre1 := hre.cell (j := 1) rfl
        have hlE := hre.lt
        have hx1 := HX.out.cell (j := 1) rfl
        have hx2 := HX.out.cell (j := 2) rfl
        have hlX2 := HX.out.lt
        generalize wr.heap.size = ge at *
        have qe0 : ∀ y : Later X, y.w.cell? ⟨ge, 0, none⟩ = some (.int .i64 e.id) := fun y => (y.b.cell (p := ⟨ge, 0, none⟩) hlE).trans hre0
        have qe1 : ∀ y : Later X, y.w.cell? ⟨ge, 1, none⟩ = some (.int .i64 e.state) := fun y => (y.b.cell (p := ⟨ge, 1, none⟩) hlE).trans hre1
        have qx1 : ∀ y : Later X, y.w.cell? ⟨w.heap.size, 1, none⟩ = some (.int .i64 d.top) := fun y => (y.b.cell (p := ⟨w.heap.size, 1, none⟩) hlX2).trans hx1
        have qx2 : ∀ y : Later X, y.w.cell? ⟨w.heap.size, 2, none⟩ = some (.slice (some ⟨b, o, none⟩) d.es.length cap) := fun y => (y.b.cell (p := ⟨w.heap.size, 2, none⟩) hlX2).trans hx2
        clear c0 c1 x2 hlX hbe hre hre0 hre1 hx1 hx2
        have hI := fun w => specId e.id w
        have hS := fun w => specIn e.state 1 4 w
        cases hi : idB e.id
        · rw [hi] at hI
          have HF : Hid (A = false) := by
            show A = false
            rw [← HA.out]
            refine ok_false fun c => ?_
            have hck := c.2.2.2.1 k hlt
            rw [HE.out] at hck
            have hek := entOk_iff.1 hck.1
            rw [hi] at hek; simp at hek
          have hne : Nonempty (Later X) := ⟨⟨X, Below.refl _ _⟩⟩; refine region_later (by kernel_rfl) (by kernel_rfl) ?_
          repeat (go_big_quiet_step (fail))
          go_big_quiet_want; go_big_quiet_op; refine ⟨.bool false, fun y => later_same (x := y) (hI y.w), ?_⟩; go_big_quiet_on
          repeat (go_big_quiet_step (fail))
          refine wpQuiet_nil ?_; intro _ hw'; obtain ⟨y, hw''⟩ := hw'; subst hw''; have hby := y.b
          go_wp2_with fail
          go_ret
          exact ⟨by rw [HF.out]; rfl, bchain HB.out hby⟩
        rw [hi] at hI
        by_cases htp : d.top < e.id
        · have HF : Hid (A = false) := by
            show A = false
            rw [← HA.out]
            refine ok_false fun c => ?_
            have hck := c.2.2.2.1 k hlt
            rw [HE.out] at hck
            have hek := entOk_iff.1 hck.1
            omega
          have hne : Nonempty (Later X) := ⟨⟨X, Below.refl _ _⟩⟩; refine region_later (by kernel_rfl) (by kernel_rfl) ?_
          repeat (go_big_quiet_step (fail))
          go_big_quiet_want; go_big_quiet_op; refine ⟨.bool true, fun y => later_same (x := y) (hI y.w), ?_⟩; go_big_quiet_on
          repeat (go_big_quiet_step (fail))
          refine wpQuiet_nil ?_; intro _ hw'; obtain ⟨y, hw''⟩ := hw'; subst hw''; have hby := y.b
          go_wp2_with fail
          go_ret
          exact ⟨by rw [HF.out]; rfl, bchain HB.out hby⟩
        cases hs : inB e.state 1 4
        · rw [hs] at hS
          have HF : Hid (A = false) := by
            show A = false
            rw [← HA.out]
            refine ok_false fun c => ?_
            have hck := c.2.2.2.1 k hlt
            rw [HE.out] at hck
            have hek := entOk_iff.1 hck.1
            exact inB_false hs hek.2.2
          have hne : Nonempty (Later X) := ⟨⟨X, Below.refl _ _⟩⟩; refine region_later (by kernel_rfl) (by kernel_rfl) ?_
          repeat (go_big_quiet_step (fail))
          go_big_quiet_want; go_big_quiet_op; refine ⟨.bool true, fun y => later_same (x := y) (hI y.w), ?_⟩; go_big_quiet_on
          repeat (go_big_quiet_step (fail))
          go_big_quiet_want; go_big_quiet_op; refine ⟨.bool false, fun y => later_same (x := y) (hS y.w), ?_⟩; go_big_quiet_on
          repeat (go_big_quiet_step (fail))
          refine wpQuiet_nil ?_; intro _ hw'; obtain ⟨y, hw''⟩ := hw'; subst hw''; have hby := y.b
          go_wp2_with fail
          go_ret
          exact ⟨by rw [HF.out]; rfl, bchain HB.out hby⟩
        rw [hs] at hS
        have HEK : Hid (entOk d.top d.es[k] = true) := by show _ = true; rw [HE.out]; exact entOk_iff.2 ⟨hi, by omega, inB_true hs⟩
        cases k with
        | zero =>
          have hk0 : decide ((0 : Int) < ((0 : Nat) : Int)) = false := rfl
          have hne : Nonempty (Later X) := ⟨⟨X, Below.refl _ _⟩⟩; refine region_later (by kernel_rfl) (by kernel_rfl) ?_
          repeat (go_big_quiet_step (fail))
          go_big_quiet_want; go_big_quiet_op; refine ⟨.bool true, fun y => later_same (x := y) (hI y.w), ?_⟩; go_big_quiet_on
          repeat (go_big_quiet_step (fail))
          go_big_quiet_want; go_big_quiet_op; refine ⟨.bool true, fun y => later_same (x := y) (hS y.w), ?_⟩; go_big_quiet_on
          repeat (go_big_quiet_step (fail))
          refine wpQuiet_nil ?_; intro _ hw'; obtain ⟨y, hw''⟩ := hw'; subst hw''; have hby := y.b
          have HC2 : Hid (∀ j (hj : j < d.es.length), j < 0 + 1 → entOk d.top d.es[j] = true ∧ (0 < j → (d.es[j - 1]'(by omega)).id < d.es[j].id)) := fun j hj hjk => by
            by_cases ej : j = 0
            · subst ej; exact ⟨HEK.out, fun h => absurd h (Nat.lt_irrefl _)⟩
            · exact HC.out j hj (by omega)
          have qq1 := qe1 y
          have HX2 := hide (HX.out.new hby)
          have HB2 := hide (bchain HB.out hby)
          have hlE2 := Nat.lt_of_lt_of_le hlE hby.size
          clear qe0 qe1 qx1 qx2 hne
          by_cases h4 : e.state = 4
          · have H4 : Hid (lv1 d.es[0] = 0) := by show lv1 _ = 0; unfold lv1; rw [HE.out, if_pos h4]
            have h4' : (e.state != 4) = false := by simp [h4]
            clear h4
            go_wp2_with fail
            go_roundw
            case rel => exact ⟨0 + 1, by go_num, by omega, int_eq (by have := HLV.out; have := H4.out; omega), HC2, HX2, HB2⟩
            case measure => simp [intOf]; omega
          · have H4 : Hid (lv1 d.es[0] = 1) := by show lv1 _ = 1; unfold lv1; rw [HE.out, if_neg h4]
            have h4' : (e.state != 4) = true := by simpa using h4
            clear h4
            go_wp2_with fail
            go_roundw
            case rel => exact ⟨0 + 1, by go_num, by omega, int_eq (by have := HLV.out; have := H4.out; omega), HC2, HX2, HB2⟩
            case measure => simp [intOf]; omega
        | succ k =>
          have hkp : decide ((0 : Int) < ((k + 1 : Nat) : Int)) = true := decide_eq_true (by omega)
          obtain ⟨b', o', cs', hbo, hbw', rfl, hc'⟩ := (HR.out.new HB.out).at k (by omega)
          simp only [Option.some.injEq, Addr.mk.injEq] at hbo
          obtain ⟨rfl, rfl, -⟩ := hbo
          have hp0 : X.cell? ⟨b, o + k * 2, none⟩ = some (.int .i64 (d.es[k]'(by omega)).id) := hc' 0 _ rfl
          clear hc'
          obtain ⟨pe, hpe⟩ : ∃ pe, (d.es[k]'(by omega)).id = pe := ⟨_, rfl⟩
          rw [hpe] at hp0
          have HPE := hide hpe
          clear hpe
          have qp0 : ∀ y : Later X, y.w.cell? ⟨b, o + k * 2, none⟩ = some (.int .i64 pe) := fun y => (y.b.cell (p := ⟨b, o + k * 2, none⟩) hbw').trans hp0
          clear hp0
          by_cases hpr : e.id ≤ pe
          · have HF : Hid (A = false) := by
              show A = false
              rw [← HA.out]
              refine ok_false fun c => ?_
              have hck := c.2.2.2.1 (k + 1) hlt
              rw [HE.out] at hck
              have hek := entOk_iff.1 hck.1
              have h3 := hck.2 (by omega)
              simp only [Nat.add_sub_cancel] at h3
              rw [HPE.out] at h3
              omega
            have hne : Nonempty (Later X) := ⟨⟨X, Below.refl _ _⟩⟩; refine region_later (by kernel_rfl) (by kernel_rfl) ?_
            repeat (go_big_quiet_step (fail))
            go_big_quiet_want; go_big_quiet_op; refine ⟨.bool true, fun y => later_same (x := y) (hI y.w), ?_⟩; go_big_quiet_on
            repeat (go_big_quiet_step (fail))
            go_big_quiet_want; go_big_quiet_op; refine ⟨.bool true, fun y => later_same (x := y) (hS y.w), ?_⟩; go_big_quiet_on
            repeat (go_big_quiet_step (fail))
            refine wpQuiet_nil ?_; intro _ hw'; obtain ⟨y, hw''⟩ := hw'; subst hw''; have hby := y.b
            go_wp2_with fail
            go_ret
            exact ⟨by rw [HF.out]; rfl, bchain HB.out hby⟩
          · have hne : Nonempty (Later X) := ⟨⟨X, Below.refl _ _⟩⟩; refine region_later (by kernel_rfl) (by kernel_rfl) ?_
            repeat (go_big_quiet_step (fail))
            go_big_quiet_want; go_big_quiet_op; refine ⟨.bool true, fun y => later_same (x := y) (hI y.w), ?_⟩; go_big_quiet_on
            repeat (go_big_quiet_step (fail))
            go_big_quiet_want; go_big_quiet_op; refine ⟨.bool true, fun y => later_same (x := y) (hS y.w), ?_⟩; go_big_quiet_on
            repeat (go_big_quiet_step (fail))
            refine wpQuiet_nil ?_; intro _ hw'; obtain ⟨y, hw''⟩ := hw'; subst hw''; have hby := y.b
            have HC2 : Hid (∀ j (hj : j < d.es.length), j < k + 1 + 1 → entOk d.top d.es[j] = true ∧ (0 < j → (d.es[j - 1]'(by omega)).id < d.es[j].id)) := fun j hj hjk => by
              by_cases ej : j = k + 1
              · subst ej; exact ⟨HEK.out, fun h => by have h3 := HPE.out; have h4 := HE.out; simp only [Nat.add_sub_cancel]; rw [h3, h4]; omega⟩
              · exact HC.out j hj (by omega)
            have qq1 := qe1 y
            have HX2 := hide (HX.out.new hby)
            have HB2 := hide (bchain HB.out hby)
            have hlE2 := Nat.lt_of_lt_of_le hlE hby.size
            clear qe0 qe1 qx1 qx2 qp0 hne
            by_cases h4 : e.state = 4
            · have H4 : Hid (lv1 d.es[k + 1] = 0) := by show lv1 _ = 0; unfold lv1; rw [HE.out, if_pos h4]
              have h4' : (e.state != 4) = false := by simp [h4]
              clear h4
              go_wp2_with fail
              go_roundw
              case rel => exact ⟨k + 1 + 1, by go_num, by omega, int_eq (by have := HLV.out; have := H4.out; omega), HC2, HX2, HB2⟩
              case measure => simp [intOf]; omega
            · have H4 : Hid (lv1 d.es[k + 1] = 1) := by show lv1 _ = 1; unfold lv1; rw [HE.out, if_neg h4]
              have h4' : (e.state != 4) = true := by simpa using h4
              clear h4
              go_wp2_with fail
              go_roundw
              case rel => exact ⟨k + 1 + 1, by go_num, by omega, int_eq (by have := HLV.out; have := H4.out; omega), HC2, HX2, HB2⟩
              case measure => simp [intOf]; omega
      · obtain rfl : k = d.es.length := by omega
        rw [List.take_length]
        have x0 := HX.out.cell (j := 0) rfl
        have x2 := HX.out.cell (j := 2) rfl
        have hlX := HX.out.lt
        have HOK : Hid (A = decide (liveL d.es ≤ d.lim)) := by
          show A = _
          rw [← HA.out]
          by_cases hl : liveL d.es ≤ d.lim
          · rw [decide_eq_true hl]; exact okRg_iff.2 ⟨HLIM.out, HTOP.out, by omega, fun j hj => HC.out j hj hj, hl⟩
          · rw [decide_eq_false hl]; exact ok_false fun c => hl c.2.2.2.2
        go_wp2_with fail
        go_ret
        exact ⟨by rw [HOK.out]; rfl, HB.out⟩
end Go.Proofs.YtfmeinkhdgbgjaaGreat
/- The model's Table: copied, shrunk, noted in. -/
namespace Go.Proofs.YtfmeinkhdgbgjaaGreat
open Go.RowKit
set_option maxRecDepth 100000
set_option linter.unusedSimpArgs false
set_option linter.unusedVariables false

theorem owns_none (w : World) (e : TypeId) : (w.alloc (.cells #[] e)).ownsRow w.heap.size e 2 (.slice (some ⟨w.heap.size, 0, none⟩) 0 0) 0 [] :=
  ⟨rfl, .inr ⟨w.heap.size, 0, #[], rfl, Nat.le_refl _, heap_alloc_last w _, Nat.le_refl _, Nat.zero_le _, rfl, rfl⟩⟩
set_option maxHeartbeats 2000000 in
theorem copy1 (L : List Fd) (room : Int) (v : Value) (w : World) (hr0 : Reads w v L.length 2 (fv L)) (hL : L.length ≤ 1000) :
    Calls Tryz.prog 97 #[.agg #[.int .i64 room, v]] w fun x w' => ∃ v', x = .returned (.agg #[.int .i64 room, v']) ∧ w'.ownsRow w.heap.size 163 2 v' L.length (fv L) ∧ Below w.heap.size w w' := by
  have HR := hide hr0
  obtain ⟨hl, ad, cap, rfl, h1, h2, h3⟩ := hr0
  clear h3
  go_enter Tryz.func97, Tryz.ntmps97
  go_wp2_with fail
  generalize hV : (w.alloc (.cells #[.int .i64 room, .slice ad L.length cap] 29)).alloc (.cells #[.int .i64 0, .slice none 0 0] 29) = V
  have hbV : Below w.heap.size w V := by rw [← hV]; exact bo_alloc ((Below.refl _ _).alloc (Nat.le_refl _) _) _
  have hX : RowIs V w.heap.size 29 [.int .i64 room, .slice ad L.length cap] := by rw [← hV]; exact (rowIs_new w 29 [.int .i64 room, .slice ad L.length cap]).alloc _
  have hRR : RowIs V (w.heap.size + 1) 29 [.int .i64 0, .slice none 0 0] := by rw [← hV]; simpa using rowIs_new (w.alloc (.cells #[.int .i64 room, .slice ad L.length cap] 29)) 29 [.int .i64 0, .slice none 0 0]
  clear hV
  have HX := hide hX; have HRR := hide hRR
  have hlV := hRR.lt
  have x0 := hX.cell (j := 0) rfl
  have x1 := hX.cell (j := 1) rfl
  clear hX hRR
  have hS0 := And.intro x0 x1
  refine wp_region_held_drew (S := (fun u => u.cell? ⟨w.heap.size, 0, none⟩ = some (.int .i64 room) ∧ u.cell? ⟨w.heap.size, 1, none⟩ = some (.slice ad L.length cap))) (by kernel_rfl) hS0 (fun hS => ?_)
  refine wpAnyH_take (i := 0) (v := ?_) rfl (by kernel_rfl) (by kernel_rfl) (by kernel_rfl) (fun _ _ _ h => h) (Or.inl ⟨by rfl, ?_⟩) hS ?_; rotate_left; focus (intro w hw; clear hw; go_simp; try with_reducible rfl)
  refine wpAnyH_take (i := 3) (v := ?_) rfl (by kernel_rfl) (by kernel_rfl) (by kernel_rfl) (fun _ _ _ h => h) (Or.inl ⟨by rfl, ?_⟩) hS ?_; rotate_left; focus (intro w hw; clear hw; go_simp; try with_reducible rfl)
  refine wpAnyH_take (i := 1) (v := ?_) rfl (by kernel_rfl) (by kernel_rfl) (by kernel_rfl) (fun _ _ _ h => h) (Or.inl ⟨by rfl, ?_⟩) hS ?_; rotate_left; focus (intro w hw; obtain ⟨l0, l1⟩ := hw; go_simp; try with_reducible rfl)
  refine wpAnyH_take (i := 4) (v := ?_) rfl (by kernel_rfl) (by kernel_rfl) (by kernel_rfl) (fun _ _ _ h => h) (Or.inl ⟨by rfl, ?_⟩) hS ?_; rotate_left; focus (intro w hw; obtain ⟨l0, l1⟩ := hw; go_simp; try with_reducible rfl)
  refine wpAnyH_ready (rs := [2]) (by kernel_rfl) (by simp) ?_; refine AllReadyH.cons rfl (fun K hK => ?_) AllReadyH.nil; go_simp
  have hbA : Below V.heap.size V ((World.drew V).alloc (.cells #[] 163)) := bo_alloc (bo_drewN 1 (Below.refl _ _)) _
  have hoA := owns_none (World.drew V) 163
  have hrA := (HR.out.new hbV).new hbA
  refine hK.out _ _ ⟨(HX.out.new hbA).cell (j := 0) rfl, (HX.out.new hbA).cell (j := 1) rfl⟩ (fun hS => ?_)
  clear hK K
  refine wpAnyH_ready (rs := [5]) (by kernel_rfl) (by simp) ?_
  refine AllReadyH.cons rfl (fun K hK => ?_) AllReadyH.nil
  refine step_app _ (by rfl) _ _ 27 (by rfl) 163 (.agg #[.string ⟨#[]⟩, .string ⟨#[]⟩]) 2 32 Tryz.underlying27 (by kernel_rfl) rfl (by decide) V.heap.size _ 0 [] (by rfl) hoA _ L.length (fv L) (by rfl) hrA (fv_one _) (by omega) (by decide) hbA.size ?_
  intro ad5 cap5 w5 hown5 hgrow5 hat5
  have hb5 : Below V.heap.size V w5 := ⟨hgrow5.os.trans hbA.os, hgrow5.tape.trans hbA.tape, hgrow5.output.trans hbA.output, Nat.le_trans hbA.size hgrow5.size, fun k hk => (hgrow5.block k (Nat.lt_of_lt_of_le hk hbA.size) (fun e => absurd (show V.heap.size ≤ k from (hoA.lt k e.symm).1) (Nat.not_le_of_lt hk))).trans (hbA.block k hk)⟩
  refine hK.out _ _ ⟨(HX.out.new hb5).cell (j := 0) rfl, (HX.out.new hb5).cell (j := 1) rfl⟩ (fun hS => ?_)
  clear hK K hat5 hgrow5 hoA hrA hbA
  rw [Nat.zero_add] at hown5 ⊢
  rw [List.nil_append] at hown5
  have hRR5 := HRR.out.new hb5
  have r0 := hRR5.cell (j := 0) rfl
  have r1 := hRR5.cell (j := 1) rfl
  have r2 := hRR5.frozen 0
  have r3 := hRR5.frozen 1
  have HO := hide hown5
  clear hown5 hRR5
  refine wpAnyH_take (i := 6) (v := ?_) rfl (by kernel_rfl) (by kernel_rfl) (by kernel_rfl) (fun _ _ _ h => h) (Or.inl ⟨by rfl, ?_⟩) hS ?_; rotate_left; focus (intro w hw; clear hw; go_simp; try with_reducible rfl)
  refine wpAnyH_ready (rs := [7]) (by kernel_rfl) (by simp) ?_; refine AllReadyH.cons rfl (fun K hK => ?_) AllReadyH.nil; go_simp
  refine hK.out _ _ ⟨(World.cell?_setCell_other _ _ _ _ (by simp)).trans ((World.cell?_setCell_other _ _ _ _ (by simp)).trans ((HX.out.new hb5).cell (j := 0) rfl)), (World.cell?_setCell_other _ _ _ _ (by simp)).trans ((World.cell?_setCell_other _ _ _ _ (by simp)).trans ((HX.out.new hb5).cell (j := 1) rfl))⟩ (fun _ => ?_)
  clear hK K
  refine wpAnyH_done (by kernel_rfl) ?_ _
  go_wp2_with fail
  refine bodyPost_ret (v := (.agg #[.int .i64 room, .slice ad5 L.length cap5])) (by simp [results, Tryz.results97, go_sem, *]) rfl ?_
  have hov : ∀ q, (Value.slice ad5 L.length cap5).ownBlock = some q → w.heap.size + 2 ≤ q := fun q hq => by have := (HO.out.lt q hq).1; omega
  exact ⟨_, rfl, owns_base (owns_far (w.heap.size + 2) (owns_far (w.heap.size + 2) HO.out hov _ _ (show w.heap.size + 1 < w.heap.size + 2 by omega)) hov _ _ (show w.heap.size + 1 < w.heap.size + 2 by omega)) (fun q hq => by have := hov q hq; omega), ((hbV.trans (hb5.mono hbV.size)).setCell (show w.heap.size ≤ w.heap.size + 1 by omega) _).setCell (show w.heap.size ≤ w.heap.size + 1 by omega) _⟩

/-- How many rows it tells that it has. -/
def lenOf (g : Nat) (w : World) : Nat := match w.cell? ⟨g, 1, none⟩ with | some (.slice _ n _) => n | _ => 0

end Go.Proofs.YtfmeinkhdgbgjaaGreat
