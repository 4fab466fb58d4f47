/- The program's registry: whether entries rise, where one is, how many live, whether it is full, whether it is right, a copy. -/
import Derived.Test.YtgodopiejiajjaaRegImpl1


namespace Go.Proofs.Ytgodopiejiajjaa
open Go.RowKit
set_option maxRecDepth 100000
set_option linter.unusedSimpArgs false
set_option linter.unusedVariables false
set_option maxHeartbeats 4000000 in
theorem implRises (L : List EntryD) (v : Value) (w : World) (hr : RdR entryS w v L) (hL : L.length ≤ 60) :
    Calls Try.prog 57 #[v, .func (.func 58) #[] #[]] w fun x w' => x = .returned (.bool (risB L)) ∧ Below w.heap.size w w' := by
  obtain ⟨ad, cap, rfl, h1, h2⟩ := hr.form
  have HR := hide hr
  clear hr
  obtain ⟨A, hA⟩ : ∃ A, risB L = A := ⟨_, rfl⟩
  rw [hA]
  have HA := hide hA
  clear hA
  go_enter Try.func57, Try.ntmps57
  go_wp2_with fail
  go_loopw [5] (fun i wr => ∃ (k : Nat), i = .int .i64 (k + 1 : Nat) ∧ k ≤ 60 ∧ Hid (∀ j (hj : j + 1 < L.length), j < k → (L[j]'(by omega)).id < L[j + 1].id) ∧ Hid (Below w.heap.size w wr)) (fun i _ => L.length + 1 - (intOf i).toNat)
  case atStart => exact ⟨0, rfl, by omega, fun j _ hj => absurd hj (Nat.not_lt_zero _), Below.refl _ _⟩
  case round =>
    obtain ⟨k, rfl, hk, HN, HB⟩ := hrel
    by_cases hlt : k + 1 < L.length
    · obtain ⟨b, o, cs, rfl, hbw, rfl, hc⟩ := (HR.out.new HB.out).at k (by omega)
      obtain ⟨b', o', cs', hbo, _, rfl, hc'⟩ := (HR.out.new HB.out).at (k + 1) hlt
      simp only [Option.some.injEq, Addr.mk.injEq] at hbo
      obtain ⟨rfl, rfl, -⟩ := hbo
      have c0 : wr.cell? ⟨b, o + k * 2, none⟩ = some (.int .i64 L[k].id) := hc 0 _ rfl
      have c1 : wr.cell? ⟨b, o + k * 2 + 1, none⟩ = some (.int .i64 L[k].state) := hc 1 _ rfl
      have c2 : wr.cell? ⟨b, o + (k + 1) * 2, none⟩ = some (.int .i64 L[k + 1].id) := hc' 0 _ rfl
      have c3 : wr.cell? ⟨b, o + (k + 1) * 2 + 1, none⟩ = some (.int .i64 L[k + 1].state) := hc' 1 _ rfl
      clear hc hc'
      obtain ⟨e, he⟩ : ∃ e, L[k] = e := ⟨_, rfl⟩
      obtain ⟨f, hf⟩ : ∃ f, L[k + 1] = f := ⟨_, rfl⟩
      rw [he] at c0 c1
      rw [hf] at c2 c3
      have q0 : ∀ y : Later wr, y.w.cell? ⟨b, o + k * 2, none⟩ = some (.int .i64 e.id) := fun y => (y.b.cell (p := ⟨b, o + k * 2, none⟩) hbw).trans c0
      have q1 : ∀ y : Later wr, y.w.cell? ⟨b, o + k * 2 + 1, none⟩ = some (.int .i64 e.state) := fun y => (y.b.cell (p := ⟨b, o + k * 2 + 1, none⟩) hbw).trans c1
      have q2 : ∀ y : Later wr, y.w.cell? ⟨b, o + (k + 1) * 2, none⟩ = some (.int .i64 f.id) := fun y => (y.b.cell (p := ⟨b, o + (k + 1) * 2, none⟩) hbw).trans c2
      have q3 : ∀ y : Later wr, y.w.cell? ⟨b, o + (k + 1) * 2 + 1, none⟩ = some (.int .i64 f.state) := fun y => (y.b.cell (p := ⟨b, o + (k + 1) * 2 + 1, none⟩) hbw).trans c3
      have hbl := fun w => implBelow e f w
      clear c0 c1 c2 c3
      cases hq : decide (e.id < f.id)
      · have HF : Hid (A = false) := by
          show A = false
          rw [← HA.out]
          cases hz : risB L
          · rfl
          · have := (risB_iff L).1 hz k hlt
            rw [he, hf] at this
            exact absurd this (of_decide_eq_false hq)
        rw [hq] at hbl
        clear hq he hf
        go_upto_region 4 with fail
        have hne : Nonempty (Later wr) := ⟨⟨wr, Below.refl _ _⟩⟩; refine region_later (by kernel_rfl) (by kernel_rfl) ?_
        repeat (go_big_quiet_step (fail))
        go_big_quiet_want; go_big_quiet_op; refine ⟨.bool false, fun y => later_calls (x := y) (hbl y.w), ?_⟩; go_big_quiet_on
        repeat (go_big_quiet_step (fail))
        refine wpQuiet_nil ?_; intro _ hw'; obtain ⟨y, hw''⟩ := hw'; subst hw''; have hby := y.b
        go_wp2_with fail
        go_ret
        exact ⟨by rw [HF.out]; rfl, bchain HB.out hby⟩
      · have HN2 : Hid (∀ j (hj : j + 1 < L.length), j < k + 1 → (L[j]'(by omega)).id < L[j + 1].id) := fun j hj hjk => by
          by_cases ej : j = k
          · subst ej; rw [he, hf]; exact of_decide_eq_true hq
          · exact HN.out j hj (by omega)
        rw [hq] at hbl
        clear hq he hf
        go_upto_region 4 with fail
        have hne : Nonempty (Later wr) := ⟨⟨wr, Below.refl _ _⟩⟩; refine region_later (by kernel_rfl) (by kernel_rfl) ?_
        repeat (go_big_quiet_step (fail))
        go_big_quiet_want; go_big_quiet_op; refine ⟨.bool true, fun y => later_calls (x := y) (hbl y.w), ?_⟩; go_big_quiet_on
        repeat (go_big_quiet_step (fail))
        refine wpQuiet_nil ?_; intro _ hw'; obtain ⟨y, hw''⟩ := hw'; subst hw''; have hby := y.b
        have HB2 := hide (bchain HB.out hby)
        go_wp2_with fail
        go_roundw
        case rel => exact ⟨k + 1, by go_num, by omega, HN2, HB2⟩
        case measure => simp [intOf]; omega
    · have HF : Hid (A = true) := by
        show A = true
        rw [← HA.out]
        exact (risB_iff L).2 fun i hi => HN.out i hi (by omega)
      have hge : ¬ ((k + 1 : Nat) : Int) < (L.length : Int) := by omega
      go_wp2_with fail
      go_ret
      exact ⟨by rw [HF.out]; rfl, HB.out⟩
theorem implIs (e : EntryD) (id : Int) (g : Nat) (w : World) (hg : w.cell? ⟨g, 0, none⟩ = some (.int .i64 id)) (hl : g < w.heap.size) : Calls Try.prog 60 #[.agg #[.int .i64 e.id, .int .i64 e.state], .pointer (some ⟨g, 0, none⟩)] w fun x w' => x = .returned (.bool (decide (e.id = id))) ∧ Below w.heap.size w w' := by
  go_enter Try.func60, Try.ntmps60
  go_wp2_with fail
  go_ret
  exact ⟨rfl, (by repeat' (first | (with_reducible exact Below.refl _ _) | (with_reducible refine Below.drew ?_) | (with_reducible refine bo_drewN _ ?_) | (with_reducible refine bo_alloc ?_ _) | (refine bchain ?_ (by with_reducible assumption)) | (with_reducible refine Below.setCell ?_ ?_ _) | go_size))⟩
set_option maxHeartbeats 4000000 in
theorem implIndex (L : List EntryD) (id : Int) (v : Value) (g : Nat) (w : World) (hr : RdR entryS w v L) (hg : w.cell? ⟨g, 0, none⟩ = some (.int .i64 id)) (hl : g < w.heap.size) (hL : L.length ≤ 60) :
    Calls Try.prog 59 #[v, .func (.func 60) #[] #[.pointer (some ⟨g, 0, none⟩)]] w fun x w' => x = .returned (.int .i64 (atI L id)) ∧ Below w.heap.size w w' := by
  obtain ⟨ad, cap, rfl, h1, h2⟩ := hr.form
  have HR := hide hr
  have HG := hide hg
  clear hr hg
  obtain ⟨A, hA⟩ : ∃ A, atI L id = A := ⟨_, rfl⟩
  rw [hA]
  have HA := hide hA
  clear hA
  go_enter Try.func59, Try.ntmps59
  go_wp2_with fail
  go_loopw [8] (fun i wr => ∃ (k : Nat), i = .int .i64 k ∧ k ≤ L.length ∧ Hid (∀ j (hj : j < L.length), j < k → L[j].id ≠ id) ∧ Hid (Below w.heap.size w wr)) (fun i _ => L.length - (intOf i).toNat)
  case atStart => exact ⟨0, rfl, Nat.zero_le _, fun j _ hj => absurd hj (Nat.not_lt_zero _), Below.refl _ _⟩
  case round =>
    obtain ⟨k, rfl, hk, HN, HB⟩ := hrel
    by_cases hlt : k < L.length
    · obtain ⟨b, o, cs, rfl, hbw, rfl, hc⟩ := (HR.out.new HB.out).at k hlt
      have c0 : wr.cell? ⟨b, o + k * 2, none⟩ = some (.int .i64 L[k].id) := hc 0 _ rfl
      have c1 : wr.cell? ⟨b, o + k * 2 + 1, none⟩ = some (.int .i64 L[k].state) := hc 1 _ rfl
      clear hc
      obtain ⟨e, he⟩ : ∃ e, L[k] = e := ⟨_, rfl⟩
      rw [he] at c0 c1
      have HE := hide he
      clear he
      go_wp2_with fail
      refine (implIs e id g _ ((HB.out.cell (p := ⟨g, 0, none⟩) hl).trans HG.out) (Nat.lt_of_lt_of_le hl HB.out.size)).mono ?_
      rintro z w5 ⟨rfl, hb5⟩
      replace HB := hide (bchain HB.out hb5)
      clear hb5 c0 c1
      by_cases h4 : e.id = id
      · rw [decide_eq_true h4]
        have HF : Hid (A = k) := by show A = k; rw [← HA.out]; exact atI_some (atE_of k hlt (by rw [HE.out]; exact h4) fun j hj => HN.out j (by omega) hj)
        clear h4
        go_wp2_with fail
        go_ret
        exact ⟨by rw [HF.out]; rfl, HB.out⟩
      · rw [decide_eq_false h4]
        have HN2 : Hid (∀ j (hj : j < L.length), j < k + 1 → L[j].id ≠ id) := fun j hj hjk => by
          by_cases e : j = k
          · subst e; rw [HE.out]; exact h4
          · exact HN.out j hj (by omega)
        clear h4
        go_wp2_with fail
        go_roundw
        case rel => exact ⟨k + 1, by go_num, by omega, HN2, HB⟩
        case measure => simp [intOf]; omega
    · have HF : Hid (A = -1) := by
        show A = -1
        rw [← HA.out]
        refine atI_none fun e he => ?_
        obtain ⟨j, hj, rfl⟩ := List.mem_iff_getElem.1 he
        exact HN.out j hj (by omega)
      go_wp2_with fail
      go_ret
      exact ⟨by rw [HF.out]; rfl, HB.out⟩
theorem implPlace (d : RegistryD) (id : Int) (v : Value) (w : World) (hr : RdR entryS w v d.es) (hL : d.es.length ≤ 60) : Calls Try.prog 37 #[.agg #[.int .i64 d.lim, .int .i64 d.top, v], .int .i64 id] w fun x w' => x = .returned (.int .i64 (atI d.es id)) ∧ Below w.heap.size w w' := by
  obtain ⟨ad, cap, rfl, h1, h2⟩ := hr.form
  have HR := hide hr
  clear hr
  go_enter Try.func37, Try.ntmps37
  go_wp2_with fail
  refine (implIndex d.es id _ (w.heap.size + 1) _ (HR.out.new (by repeat' (first | (with_reducible exact Below.refl _ _) | (with_reducible refine Below.drew ?_) | (with_reducible refine bo_drewN _ ?_) | (with_reducible refine bo_alloc ?_ _) | (refine bchain ?_ (by with_reducible assumption)) | (with_reducible refine Below.setCell ?_ ?_ _) | go_size))) (by simp) (by simp) hL).mono ?_
  rintro z w1 ⟨rfl, hb1⟩
  go_wp2_with fail
  go_ret
  exact ⟨rfl, (by repeat' (first | (with_reducible exact Below.refl _ _) | (with_reducible refine Below.drew ?_) | (with_reducible refine bo_drewN _ ?_) | (with_reducible refine bo_alloc ?_ _) | (refine bchain ?_ (by with_reducible assumption)) | (with_reducible refine Below.setCell ?_ ?_ _) | go_size))⟩
theorem keep_live (L : List EntryD) : ((keep [.inl false] L).length : Int) = liveL L := by
  have := (live_filter L).2
  rw [← this]
  unfold keep
  congr 2
  simp [wnP, liB]
set_option maxHeartbeats 1000000 in
theorem implLiveL (d : RegistryD) (v : Value) (w : World) (hr : RdR entryS w v d.es) (hL : d.es.length ≤ 60) : Calls Try.prog 51 #[.agg #[.int .i64 d.lim, .int .i64 d.top, v]] w fun x w' => x = .returned (.int .i64 (liveL d.es)) ∧ Below w.heap.size w w' := by
  obtain ⟨ad, cap, rfl, h1, h2⟩ := hr.form
  have HR := hide hr
  clear hr
  obtain ⟨A, hA⟩ : ∃ A, liveL d.es = A := ⟨_, rfl⟩
  have HKL : Hid (((keep [.inl false] d.es).length : Int) = A) := by rw [← hA]; exact keep_live d.es
  rw [hA]
  clear hA
  go_enter Try.func51, Try.ntmps51
  go_wp2_with fail
  refine (implList d _ _ (HR.out.new (by repeat' (first | (with_reducible exact Below.refl _ _) | (with_reducible refine Below.drew ?_) | (with_reducible refine bo_drewN _ ?_) | (with_reducible refine bo_alloc ?_ _) | (refine bchain ?_ (by with_reducible assumption)) | (with_reducible refine Below.setCell ?_ ?_ _) | go_size)))).mono ?_; rintro z w1 ⟨rfl, hb1⟩
  have HB := hide (bchain (bo_alloc (Below.refl _ _) _) hb1)
  clear hb1
  go_wp2_with fail
  have hbF : Below w1.heap.size w1 (w1.alloc (.cells #[.func (.func 41) #[] #[]] 66)) := (Below.refl _ _).alloc (Nat.le_refl _) _
  have hF : Reads (w1.alloc (.cells #[.func (.func 41) #[] #[]] 66)) (.slice (some ⟨w1.heap.size, 0, none⟩) 1 1) 1 1 (([.inl false] : List Wn).map wnV) := reads_of_owns (owns_lit w1 66 1 1 #[.func (.func 41) #[] #[]] rfl (by omega))
  replace HB := hide (bchain HB.out hbF)
  refine (implOnly d.es [.inl false] _ (some ⟨w1.heap.size, 0, none⟩) 1 _ (HR.out.new HB.out) hF hL (by decide)).mono ?_
  rintro z w2 ⟨v2, rfl, ho2, hb2⟩
  obtain ⟨a2, p2, rfl, _⟩ := owns_form ho2
  replace HB := hide (bchain HB.out hb2)
  have hkl := keep_len [.inl false] d.es
  clear hF hbF hb2 ho2
  go_wp2_with fail
  go_ret
  exact ⟨by rw [← HKL.out]; rfl, HB.out⟩
set_option maxHeartbeats 1000000 in
theorem implFull (d : RegistryD) (v : Value) (w : World) (hr : RdR entryS w v d.es) (hL : d.es.length ≤ 60) : Calls Try.prog 34 #[.agg #[.int .i64 d.lim, .int .i64 d.top, v]] w fun x w' => x = .returned (.bool (decide (d.lim ≤ liveL d.es ∨ d.es.length = 60))) ∧ Below w.heap.size w w' := by
  obtain ⟨ad, cap, rfl, h1, h2⟩ := hr.form
  have HR := hide hr
  clear hr
  have hlv := fun w h => implLiveL d (.slice ad d.es.length cap) w h hL
  obtain ⟨q, hq⟩ : ∃ q, liveL d.es = q := ⟨_, rfl⟩
  rw [hq] at hlv ⊢
  clear hq
  obtain ⟨A, hA⟩ : ∃ A, decide (d.lim ≤ q ∨ d.es.length = 60) = A := ⟨_, rfl⟩
  rw [hA]
  have HA := hide hA
  clear hA
  go_enter Try.func34, Try.ntmps34
  go_upto_region 1 with fail
  obtain ⟨V, hV⟩ : ∃ V, w.alloc (.cells #[.int .i64 d.lim, .int .i64 d.top, .slice ad d.es.length cap] 26) = V := ⟨_, rfl⟩
  have hbV : Below w.heap.size w V := by rw [← hV]; exact (Below.refl _ _).alloc (Nat.le_refl _) _
  have hX : RowIs V w.heap.size 26 [.int .i64 d.lim, .int .i64 d.top, .slice ad d.es.length cap] := by rw [← hV]; exact rowIs_new w 26 [.int .i64 d.lim, .int .i64 d.top, .slice ad d.es.length cap]
  rw [hV]
  clear hV
  have x0 := hX.cell (j := 0) rfl
  have x1 := hX.cell (j := 1) rfl
  have x2 := hX.cell (j := 2) rfl
  have hlX := hX.lt
  have q0 : ∀ y : Later V, y.w.cell? ⟨w.heap.size, 0, none⟩ = some (.int .i64 d.lim) := fun y => (y.b.cell (p := ⟨w.heap.size, 0, none⟩) hlX).trans x0
  have q1 : ∀ y : Later V, y.w.cell? ⟨w.heap.size, 1, none⟩ = some (.int .i64 d.top) := fun y => (y.b.cell (p := ⟨w.heap.size, 1, none⟩) hlX).trans x1
  have q2 : ∀ y : Later V, y.w.cell? ⟨w.heap.size, 2, none⟩ = some (.slice ad d.es.length cap) := fun y => (y.b.cell (p := ⟨w.heap.size, 2, none⟩) hlX).trans x2
  clear x0 x1 x2 hX
  have hrd : ∀ y : Later V, RdR entryS y.w (.slice ad d.es.length cap) d.es := fun y => (HR.out.new hbV).new y.b
  by_cases hf : d.lim ≤ q
  · have HF : Hid (A = true) := by show A = true; rw [← HA.out]; exact decide_eq_true (.inl hf)
    have hne : Nonempty (Later V) := ⟨⟨V, Below.refl _ _⟩⟩; refine region_later (by kernel_rfl) (by kernel_rfl) ?_
    repeat (go_big_quiet_step (fail))
    go_big_quiet_want; go_big_quiet_op; refine ⟨.int .i64 q, fun y => later_calls (x := y) (hlv y.w (hrd y)), ?_⟩; go_big_quiet_on
    repeat (go_big_quiet_step (fail))
    refine wpQuiet_nil ?_; intro _ hw'; obtain ⟨y, hw''⟩ := hw'; subst hw''; have hby := y.b
    go_wp2_with fail
    go_ret
    exact ⟨by rw [HF.out]; rfl, bchain hbV hby⟩
  · by_cases h60 : (60 : Int) ≤ d.es.length
    · have HF : Hid (A = true) := by show A = true; rw [← HA.out]; exact decide_eq_true (.inr (by omega))
      have hd : decide (d.lim ≤ q) = false := decide_eq_false hf
      have hne : Nonempty (Later V) := ⟨⟨V, Below.refl _ _⟩⟩; refine region_later (by kernel_rfl) (by kernel_rfl) ?_
      repeat (go_big_quiet_step (fail))
      go_big_quiet_want; go_big_quiet_op; refine ⟨.int .i64 q, fun y => later_calls (x := y) (hlv y.w (hrd y)), ?_⟩; go_big_quiet_on
      repeat (go_big_quiet_step (fail))
      refine wpQuiet_nil ?_; intro _ hw'; obtain ⟨y, hw''⟩ := hw'; subst hw''; have hby := y.b
      go_wp2_with fail
      go_ret
      exact ⟨by rw [HF.out]; rfl, bchain hbV hby⟩
    · have HF : Hid (A = false) := by show A = false; rw [← HA.out]; exact decide_eq_false (by omega)
      have hd : decide (d.lim ≤ q) = false := decide_eq_false hf
      have hne : Nonempty (Later V) := ⟨⟨V, Below.refl _ _⟩⟩; refine region_later (by kernel_rfl) (by kernel_rfl) ?_
      repeat (go_big_quiet_step (fail))
      go_big_quiet_want; go_big_quiet_op; refine ⟨.int .i64 q, fun y => later_calls (x := y) (hlv y.w (hrd y)), ?_⟩; go_big_quiet_on
      repeat (go_big_quiet_step (fail))
      refine wpQuiet_nil ?_; intro _ hw'; obtain ⟨y, hw''⟩ := hw'; subst hw''; have hby := y.b
      go_wp2_with fail
      go_ret
      exact ⟨by rw [HF.out]; rfl, bchain hbV hby⟩
theorem keep_none (L : List EntryD) : keep [] L = L := by unfold keep; simp
set_option maxHeartbeats 1000000 in
theorem implApart (d : RegistryD) (v : Value) (w : World) (hr : RdR entryS w v d.es) (hL : d.es.length ≤ 60) : Calls Try.prog 32 #[.agg #[.int .i64 d.lim, .int .i64 d.top, v]] w fun x w' => ∃ v', x = .returned (.agg #[.int .i64 d.lim, .int .i64 d.top, v']) ∧ w'.ownsRow w.heap.size 57 2 v' d.es.length (ev d.es) ∧ Below w.heap.size w w' := by
  obtain ⟨ad, cap, rfl, h1, h2⟩ := hr.form
  have HR := hide hr
  clear hr
  have honly := implOnly d.es [] (.slice ad d.es.length cap) none 0
  rw [keep_none] at honly
  go_enter Try.func32, Try.ntmps32
  go_wp2_with fail
  obtain ⟨V, hV⟩ : ∃ V, (w.alloc (.cells #[.int .i64 d.lim, .int .i64 d.top, .slice ad d.es.length cap] 26)).alloc (.cells #[.int .i64 0, .int .i64 0, .slice none 0 0] 26) = V := ⟨_, rfl⟩
  have HB : Hid (Below w.heap.size w V) := by show Below _ _ _; rw [← hV]; exact bo_alloc ((Below.refl _ _).alloc (Nat.le_refl _) _) _
  have HX : Hid (RowIs V w.heap.size 26 [.int .i64 d.lim, .int .i64 d.top, .slice ad d.es.length cap]) := by show RowIs _ _ _ _; rw [← hV]; exact (rowIs_new w 26 [.int .i64 d.lim, .int .i64 d.top, .slice ad d.es.length cap]).alloc _
  have HRR : Hid (RowIs V (w.heap.size + 1) 26 [.int .i64 0, .int .i64 0, .slice none 0 0]) := by show RowIs _ _ _ _; rw [← hV]; simpa using rowIs_new (w.alloc (.cells #[.int .i64 d.lim, .int .i64 d.top, .slice ad d.es.length cap] 26)) 26 [.int .i64 0, .int .i64 0, .slice none 0 0]
  rw [hV]
  clear hV
  refine (implList d _ _ (HR.out.new HB.out)).mono ?_; rintro z w1 ⟨rfl, hb1⟩
  replace HX := hide (HX.out.new hb1)
  replace HRR := hide (HRR.out.new hb1)
  replace HB := hide (bchain HB.out hb1)
  have hlr := HRR.out.lt
  clear hb1
  go_wp2_with fail
  refine (honly w1 (HR.out.new HB.out) (reads_of_owns (World.ownsRow_nil w1 0 66 1)) hL (by decide)).mono ?_
  rintro z w2 ⟨v2, rfl, ho2, hb2⟩
  obtain ⟨a2, p2, rfl, _⟩ := owns_form ho2
  replace HX := hide (HX.out.new hb2)
  replace HRR := hide (HRR.out.new hb2)
  replace HB := hide (bchain HB.out hb2)
  have HO := hide ho2
  have hov : ∀ q, (Value.slice a2 d.es.length p2).ownBlock = some q → w.heap.size + 2 ≤ q := fun q hq => by have := (HO.out.lt q hq).1; omega
  have HOV := hide hov
  clear hb2 ho2 honly hov
  have x0 := HX.out.cell (j := 0) rfl
  have x1 := HX.out.cell (j := 1) rfl
  have x2 := HX.out.cell (j := 2) rfl
  have x5 := HX.out.frozen 2
  have r0 := HRR.out.cell (j := 0) rfl
  have r1 := HRR.out.cell (j := 1) rfl
  have r2 := HRR.out.cell (j := 2) rfl
  have r3 := HRR.out.frozen 0
  have r4 := HRR.out.frozen 1
  have r5 := HRR.out.frozen 2
  have hlX := HX.out.lt
  have hlR := HRR.out.lt
  go_wp2_with fail
  refine bodyPost_ret (v := (.agg #[.int .i64 d.lim, .int .i64 d.top, .slice a2 d.es.length p2])) (by simp [results, Try.results32, go_sem, *]) rfl ?_
  exact ⟨_, rfl, owns_base (base := w1.heap.size) (by repeat' (first | (with_reducible exact HO.out) | (with_reducible refine owns_far _ ?_ HOV.out _ _ ?_) | (with_reducible refine World.ownsRow.alloc ?_ _) | (simp; done) | (simp; omega))) (fun q hq => by have := HOV.out q hq; omega), by repeat' (first | (with_reducible exact HB.out) | (with_reducible refine Below.setCell ?_ ?_ _) | (with_reducible refine Below.alloc ?_ ?_ _) | (with_reducible refine Below.drew ?_) | (with_reducible refine bo_drewN _ ?_) | omega | (simp; done) | (simp; omega))⟩
theorem keep_all (L : List EntryD) (l t : Int) (a : Option Addr) (n c : Nat) : (keep [.inl true, .inr (l, t, a, n, c)] L).length = L.length ↔ L.all (entOk t) = true := by
  unfold keep
  rw [List.length_filter_eq_length_iff, List.all_eq_true]
  refine forall_congr' fun e => forall_congr' fun _ => ?_
  have : (([.inl true, .inr (l, t, a, n, c)] : List Wn).all fun x => wnP x e) = entOk t e := by
    simp only [List.all_cons, List.all_nil, wnP, Bool.and_true, rtB, entOk, inB]
    cases idB e.id <;> cases decide (e.id ≤ t) <;> cases decide (1 ≤ e.state ∧ e.state ≤ 4) <;> rfl
  rw [this]
set_option maxHeartbeats 4000000 in
theorem implRight (d : RegistryD) (v : Value) (w : World) (hr : RdR entryS w v d.es) : Calls Try.prog 31 #[.agg #[.int .i64 d.lim, .int .i64 d.top, v]] w fun x w' => x = .returned (.bool (okRg d)) ∧ Below w.heap.size w w' := by
  obtain ⟨ad, cap, rfl, h1, h2⟩ := hr.form
  have HR := hide hr
  clear hr
  obtain ⟨A, hA⟩ : ∃ A, okRg d = A := ⟨_, rfl⟩
  rw [hA]
  have HA : Hid (A = (inB d.lim 0 20 && decide (d.top = 0 ∨ idB d.top = true) && decide (d.es.length ≤ 60) && d.es.all (entOk d.top) && risB d.es && decide (liveL d.es ≤ d.lim))) := hA.symm
  clear hA
  cases hT : decide (d.top = 0 ∨ idB d.top = true)
  · have hT' := of_decide_eq_false hT
    have HF : Hid (A = false) := by show A = false; rw [HA.out, hT]; cases inB d.lim 0 20 <;> rfl
    have ht0 : (d.top == 0) = false := by simpa using fun c => hT' (.inl c)
    have ht1 : idB d.top = false := by cases hq : idB d.top <;> simp_all
    clear hT hT'
    go_enter Try.func31, Try.ntmps31
    go_wp2_with fail
    refine (implId d.top _).mono ?_; rw [ht1]; rintro e w1 ⟨rfl, hsame⟩; obtain rfl := hsame.symm; clear hsame
    go_wp2_with fail
    refine (implWithin _ _ _ _).mono ?_
    cases hlim : inB d.lim 0 20
    · rintro e w1 ⟨rfl, hsame⟩; obtain rfl := hsame.symm; clear hsame
      go_wp2_with fail
      go_ret
      exact ⟨by rw [HF.out]; rfl, (by repeat' (first | (with_reducible exact Below.refl _ _) | (with_reducible refine Below.drew ?_) | (with_reducible refine bo_drewN _ ?_) | (with_reducible refine bo_alloc ?_ _) | (refine bchain ?_ (by with_reducible assumption)) | (with_reducible refine Below.setCell ?_ ?_ _) | go_size))⟩
    · rintro e w1 ⟨rfl, hsame⟩; obtain rfl := hsame.symm; clear hsame
      go_wp2_with fail
      go_ret
      exact ⟨by rw [HF.out]; rfl, (by repeat' (first | (with_reducible exact Below.refl _ _) | (with_reducible refine Below.drew ?_) | (with_reducible refine bo_drewN _ ?_) | (with_reducible refine bo_alloc ?_ _) | (refine bchain ?_ (by with_reducible assumption)) | (with_reducible refine Below.setCell ?_ ?_ _) | go_size))⟩
  have two : (d.top = 0) ∨ ((d.top == 0) = false ∧ idB d.top = true) := by
    by_cases h : d.top = 0
    · exact .inl h
    · exact .inr ⟨by simpa using h, (of_decide_eq_true hT).resolve_left h⟩
  have hid := fun w => implId d.top w
  have hlm := fun w => implWithin d.lim 0 20 w
  cases hlim : inB d.lim 0 20
  · rw [hlim] at hlm
    have HF : Hid (A = false) := by show A = false; rw [HA.out, hlim]; rfl
    clear hT
    rcases two with ht0 | ⟨ht0, ht1⟩
    · rw [ht0] at *
      go_enter Try.func31, Try.ntmps31
      go_wp2_with fail
      refine (hlm _).mono ?_; rintro e w1 ⟨rfl, hsame⟩; obtain rfl := hsame.symm; clear hsame
      go_wp2_with fail
      go_ret
      exact ⟨by rw [HF.out]; rfl, (by repeat' (first | (with_reducible exact Below.refl _ _) | (with_reducible refine Below.drew ?_) | (with_reducible refine bo_drewN _ ?_) | (with_reducible refine bo_alloc ?_ _) | (refine bchain ?_ (by with_reducible assumption)) | (with_reducible refine Below.setCell ?_ ?_ _) | go_size))⟩
    · rw [ht1] at hid
      go_enter Try.func31, Try.ntmps31
      go_wp2_with fail
      refine (hid _).mono ?_; rintro e w1 ⟨rfl, hsame⟩; obtain rfl := hsame.symm; clear hsame
      go_wp2_with fail
      refine (hlm _).mono ?_; rintro e w1 ⟨rfl, hsame⟩; obtain rfl := hsame.symm; clear hsame
      go_wp2_with fail
      go_ret
      exact ⟨by rw [HF.out]; rfl, (by repeat' (first | (with_reducible exact Below.refl _ _) | (with_reducible refine Below.drew ?_) | (with_reducible refine bo_drewN _ ?_) | (with_reducible refine bo_alloc ?_ _) | (refine bchain ?_ (by with_reducible assumption)) | (with_reducible refine Below.setCell ?_ ?_ _) | go_size))⟩
  rw [hlim] at hlm
  by_cases h60 : (60 : Int) < d.es.length
  · have HF : Hid (A = false) := by show A = false; rw [HA.out, hlim, hT, show decide (d.es.length ≤ 60) = false from decide_eq_false (by omega)]; rfl
    clear hT
    rcases two with ht0 | ⟨ht0, ht1⟩
    · rw [ht0] at *
      go_enter Try.func31, Try.ntmps31
      go_wp2_with fail
      refine (hlm _).mono ?_; rintro e w1 ⟨rfl, hsame⟩; obtain rfl := hsame.symm; clear hsame
      go_wp2_with fail
      go_ret
      exact ⟨by rw [HF.out]; rfl, (by repeat' (first | (with_reducible exact Below.refl _ _) | (with_reducible refine Below.drew ?_) | (with_reducible refine bo_drewN _ ?_) | (with_reducible refine bo_alloc ?_ _) | (refine bchain ?_ (by with_reducible assumption)) | (with_reducible refine Below.setCell ?_ ?_ _) | go_size))⟩
    · rw [ht1] at hid
      go_enter Try.func31, Try.ntmps31
      go_wp2_with fail
      refine (hid _).mono ?_; rintro e w1 ⟨rfl, hsame⟩; obtain rfl := hsame.symm; clear hsame
      go_wp2_with fail
      refine (hlm _).mono ?_; rintro e w1 ⟨rfl, hsame⟩; obtain rfl := hsame.symm; clear hsame
      go_wp2_with fail
      go_ret
      exact ⟨by rw [HF.out]; rfl, (by repeat' (first | (with_reducible exact Below.refl _ _) | (with_reducible refine Below.drew ?_) | (with_reducible refine bo_drewN _ ?_) | (with_reducible refine bo_alloc ?_ _) | (refine bchain ?_ (by with_reducible assumption)) | (with_reducible refine Below.setCell ?_ ?_ _) | go_size))⟩
  have hL : d.es.length ≤ 60 := by omega
  have HA2 : Hid (A = (d.es.all (entOk d.top) && risB d.es && decide (liveL d.es ≤ d.lim))) := by show A = _; rw [HA.out, hlim, hT, show decide (d.es.length ≤ 60) = true from decide_eq_true hL]; simp only [Bool.true_and]
  clear hT HA hlim
  have hls := implList d (.slice ad d.es.length cap)
  have hkp := keep_all d.es d.lim d.top ad d.es.length cap
  have honly := implOnly d.es [.inl true, .inr (d.lim, d.top, ad, d.es.length, cap)] (.slice ad d.es.length cap)
  have hris := implRises d.es (.slice ad d.es.length cap)
  have hlv := fun w h => implLiveL d (.slice ad d.es.length cap) w h hL
  obtain ⟨q, hq⟩ : ∃ q, liveL d.es = q := ⟨_, rfl⟩
  rw [hq] at hlv HA2
  clear hq
  obtain ⟨M, hM⟩ : ∃ M, keep [.inl true, .inr (d.lim, d.top, ad, d.es.length, cap)] d.es = M := ⟨_, rfl⟩
  rw [hM] at hkp honly
  have hml : M.length ≤ d.es.length := by rw [← hM]; exact keep_len _ _
  have HKP := hide hkp
  clear hM hkp
  rcases two with ht0 | ⟨ht0, ht1⟩
  · have HT0 := hide ht0
    have ht2 : (d.top == 0) = true := by simpa using ht0
    clear ht0
    go_enter Try.func31, Try.ntmps31
    go_upto_region 2 with fail
    generalize hV : w.alloc (.cells #[.int .i64 d.lim, .int .i64 d.top, .slice ad d.es.length cap] 26) = V
    have hbV : Below w.heap.size w V := by rw [← hV]; exact (Below.refl _ _).alloc (Nat.le_refl _) _
    have HX : Hid (RowIs V w.heap.size 26 [.int .i64 d.lim, .int .i64 d.top, .slice ad d.es.length cap]) := by show RowIs _ _ _ _; rw [← hV]; exact rowIs_new w 26 [.int .i64 d.lim, .int .i64 d.top, .slice ad d.es.length cap]
    clear hV
    have HB := hide hbV
    clear hbV
    have x0 := HX.out.cell (j := 0) rfl
    have x1 := HX.out.cell (j := 1) rfl
    have x2 := HX.out.cell (j := 2) rfl
    have hlX := HX.out.lt
    go_wp2_with fail
    refine (hlm _).mono ?_; rintro e w1 ⟨rfl, hsame⟩; obtain rfl := hsame.symm; clear hsame
    go_wp2_with fail
    refine (hls _ (HR.out.new HB.out)).mono ?_; rintro z w2 ⟨rfl, hb2⟩
    replace HX := hide (HX.out.new hb2)
    replace HB := hide (bchain HB.out hb2)
    clear hb2 x0 x1 x2 hlX
    have x0 := HX.out.cell (j := 0) rfl
    have x1 := HX.out.cell (j := 1) rfl
    have x2 := HX.out.cell (j := 2) rfl
    have hlX := HX.out.lt
    go_wp2_with fail
    have hbF : Below w2.heap.size w2 (w2.alloc (.cells #[.func (.func 55) #[] #[], .func (.func 56) #[.agg #[.int .i64 d.lim, .int .i64 d.top, .slice ad d.es.length cap]] #[]] 66)) := (Below.refl _ _).alloc (Nat.le_refl _) _
    have hF : Reads (w2.alloc (.cells #[.func (.func 55) #[] #[], .func (.func 56) #[.agg #[.int .i64 d.lim, .int .i64 d.top, .slice ad d.es.length cap]] #[]] 66)) (.slice (some ⟨w2.heap.size, 0, none⟩) 2 2) 2 1 (([.inl true, .inr (d.lim, d.top, ad, d.es.length, cap)] : List Wn).map wnV) := reads_of_owns (owns_lit w2 66 1 2 #[.func (.func 55) #[] #[], .func (.func 56) #[.agg #[.int .i64 d.lim, .int .i64 d.top, .slice ad d.es.length cap]] #[]] rfl (by omega))
    replace HX := hide (HX.out.new hbF)
    replace HB := hide (bchain HB.out hbF)
    refine (honly (some ⟨w2.heap.size, 0, none⟩) 2 _ (HR.out.new HB.out) hF hL (by simp)).mono ?_
    rintro z w3 ⟨v3, rfl, ho3, hb3⟩
    obtain ⟨a3, p3, rfl, _⟩ := owns_form ho3
    replace HX := hide (HX.out.new hb3)
    replace HB := hide (bchain HB.out hb3)
    clear hF hbF hb3 ho3 x0 x1 x2 hlX
    by_cases hml2 : M.length = d.es.length
    rotate_left
    · have hne : ((M.length : Int) != d.es.length) = true := by simp; omega
      have HF : Hid (A = false) := by
        show A = false
        rw [HA2.out]
        cases hq : d.es.all (entOk d.top)
        · rfl
        · exact absurd (HKP.out.2 hq) hml2
      clear hml2
      go_wp2_with fail
      go_ret
      exact ⟨by rw [HF.out]; rfl, HB.out⟩
    have hne : ((M.length : Int) != d.es.length) = false := by simp; omega
    have HA3 : Hid (A = (risB d.es && decide (q ≤ d.lim))) := by show A = _; rw [HA2.out, HKP.out.1 hml2]; simp
    clear hml2 HA2
    go_wp2_with fail
    refine (hris _ (HR.out.new HB.out) hL).mono ?_
    cases hrs : risB d.es
    · rintro z w4 ⟨rfl, hb4⟩
      have HF : Hid (A = false) := by show A = false; rw [HA3.out, hrs]; rfl
      replace HB := hide (bchain HB.out hb4)
      clear hb4
      go_wp2_with fail
      go_ret
      exact ⟨by rw [HF.out]; rfl, HB.out⟩
    rintro z w4 ⟨rfl, hb4⟩
    have HF : Hid (A = decide (q ≤ d.lim)) := by show A = _; rw [HA3.out, hrs]; simp
    replace HX := hide (HX.out.new hb4)
    replace HB := hide (bchain HB.out hb4)
    clear hb4 hrs HA3
    have x0 := HX.out.cell (j := 0) rfl
    have x1 := HX.out.cell (j := 1) rfl
    have x2 := HX.out.cell (j := 2) rfl
    have hlX := HX.out.lt
    have q0 : ∀ y : Later w4, y.w.cell? ⟨w.heap.size, 0, none⟩ = some (.int .i64 d.lim) := fun y => (y.b.cell (p := ⟨w.heap.size, 0, none⟩) hlX).trans x0
    have q1 : ∀ y : Later w4, y.w.cell? ⟨w.heap.size, 1, none⟩ = some (.int .i64 d.top) := fun y => (y.b.cell (p := ⟨w.heap.size, 1, none⟩) hlX).trans x1
    have q2 : ∀ y : Later w4, y.w.cell? ⟨w.heap.size, 2, none⟩ = some (.slice ad d.es.length cap) := fun y => (y.b.cell (p := ⟨w.heap.size, 2, none⟩) hlX).trans x2
    clear x0 x1 x2
    have hrd : ∀ y : Later w4, RdR entryS y.w (.slice ad d.es.length cap) d.es := fun y => (HR.out.new HB.out).new y.b
    go_upto_region 7 with fail
    have hne : Nonempty (Later w4) := ⟨⟨w4, Below.refl _ _⟩⟩; refine region_later (by kernel_rfl) (by kernel_rfl) ?_
    repeat (go_big_quiet_step (fail))
    go_big_quiet_want; go_big_quiet_op; refine ⟨.int .i64 q, fun y => later_calls (x := y) (hlv y.w (hrd y)), ?_⟩; go_big_quiet_on
    repeat (go_big_quiet_step (fail))
    refine wpQuiet_nil ?_; intro _ hw'; obtain ⟨y, hw''⟩ := hw'; subst hw''; have hby := y.b
    go_wp2_with fail
    go_ret
    exact ⟨by rw [HF.out]; rfl, bchain HB.out hby⟩
  · rw [ht1] at hid
    go_enter Try.func31, Try.ntmps31
    go_wp2_with fail
    refine (hid _).mono ?_; rintro e w1 ⟨rfl, hsame⟩; obtain rfl := hsame.symm; clear hsame
    go_upto_region 2 with fail
    generalize hV : w.alloc (.cells #[.int .i64 d.lim, .int .i64 d.top, .slice ad d.es.length cap] 26) = V
    have hbV : Below w.heap.size w V := by rw [← hV]; exact (Below.refl _ _).alloc (Nat.le_refl _) _
    have HX : Hid (RowIs V w.heap.size 26 [.int .i64 d.lim, .int .i64 d.top, .slice ad d.es.length cap]) := by show RowIs _ _ _ _; rw [← hV]; exact rowIs_new w 26 [.int .i64 d.lim, .int .i64 d.top, .slice ad d.es.length cap]
    clear hV
    have HB := hide hbV
    clear hbV
    have x0 := HX.out.cell (j := 0) rfl
    have x1 := HX.out.cell (j := 1) rfl
    have x2 := HX.out.cell (j := 2) rfl
    have hlX := HX.out.lt
    go_wp2_with fail
    refine (hlm _).mono ?_; rintro e w1 ⟨rfl, hsame⟩; obtain rfl := hsame.symm; clear hsame
    go_wp2_with fail
    refine (hls _ (HR.out.new HB.out)).mono ?_; rintro z w2 ⟨rfl, hb2⟩
    replace HX := hide (HX.out.new hb2)
    replace HB := hide (bchain HB.out hb2)
    clear hb2 x0 x1 x2 hlX
    have x0 := HX.out.cell (j := 0) rfl
    have x1 := HX.out.cell (j := 1) rfl
    have x2 := HX.out.cell (j := 2) rfl
    have hlX := HX.out.lt
    go_wp2_with fail
    have hbF : Below w2.heap.size w2 (w2.alloc (.cells #[.func (.func 55) #[] #[], .func (.func 56) #[.agg #[.int .i64 d.lim, .int .i64 d.top, .slice ad d.es.length cap]] #[]] 66)) := (Below.refl _ _).alloc (Nat.le_refl _) _
    have hF : Reads (w2.alloc (.cells #[.func (.func 55) #[] #[], .func (.func 56) #[.agg #[.int .i64 d.lim, .int .i64 d.top, .slice ad d.es.length cap]] #[]] 66)) (.slice (some ⟨w2.heap.size, 0, none⟩) 2 2) 2 1 (([.inl true, .inr (d.lim, d.top, ad, d.es.length, cap)] : List Wn).map wnV) := reads_of_owns (owns_lit w2 66 1 2 #[.func (.func 55) #[] #[], .func (.func 56) #[.agg #[.int .i64 d.lim, .int .i64 d.top, .slice ad d.es.length cap]] #[]] rfl (by omega))
    replace HX := hide (HX.out.new hbF)
    replace HB := hide (bchain HB.out hbF)
    refine (honly (some ⟨w2.heap.size, 0, none⟩) 2 _ (HR.out.new HB.out) hF hL (by simp)).mono ?_
    rintro z w3 ⟨v3, rfl, ho3, hb3⟩
    obtain ⟨a3, p3, rfl, _⟩ := owns_form ho3
    replace HX := hide (HX.out.new hb3)
    replace HB := hide (bchain HB.out hb3)
    clear hF hbF hb3 ho3 x0 x1 x2 hlX
    by_cases hml2 : M.length = d.es.length
    rotate_left
    · have hne : ((M.length : Int) != d.es.length) = true := by simp; omega
      have HF : Hid (A = false) := by
        show A = false
        rw [HA2.out]
        cases hq : d.es.all (entOk d.top)
        · rfl
        · exact absurd (HKP.out.2 hq) hml2
      clear hml2
      go_wp2_with fail
      go_ret
      exact ⟨by rw [HF.out]; rfl, HB.out⟩
    have hne : ((M.length : Int) != d.es.length) = false := by simp; omega
    have HA3 : Hid (A = (risB d.es && decide (q ≤ d.lim))) := by show A = _; rw [HA2.out, HKP.out.1 hml2]; simp
    clear hml2 HA2
    go_wp2_with fail
    refine (hris _ (HR.out.new HB.out) hL).mono ?_
    cases hrs : risB d.es
    · rintro z w4 ⟨rfl, hb4⟩
      have HF : Hid (A = false) := by show A = false; rw [HA3.out, hrs]; rfl
      replace HB := hide (bchain HB.out hb4)
      clear hb4
      go_wp2_with fail
      go_ret
      exact ⟨by rw [HF.out]; rfl, HB.out⟩
    rintro z w4 ⟨rfl, hb4⟩
    have HF : Hid (A = decide (q ≤ d.lim)) := by show A = _; rw [HA3.out, hrs]; simp
    replace HX := hide (HX.out.new hb4)
    replace HB := hide (bchain HB.out hb4)
    clear hb4 hrs HA3
    have x0 := HX.out.cell (j := 0) rfl
    have x1 := HX.out.cell (j := 1) rfl
    have x2 := HX.out.cell (j := 2) rfl
    have hlX := HX.out.lt
    have q0 : ∀ y : Later w4, y.w.cell? ⟨w.heap.size, 0, none⟩ = some (.int .i64 d.lim) := fun y => (y.b.cell (p := ⟨w.heap.size, 0, none⟩) hlX).trans x0
    have q1 : ∀ y : Later w4, y.w.cell? ⟨w.heap.size, 1, none⟩ = some (.int .i64 d.top) := fun y => (y.b.cell (p := ⟨w.heap.size, 1, none⟩) hlX).trans x1
    have q2 : ∀ y : Later w4, y.w.cell? ⟨w.heap.size, 2, none⟩ = some (.slice ad d.es.length cap) := fun y => (y.b.cell (p := ⟨w.heap.size, 2, none⟩) hlX).trans x2
    clear x0 x1 x2
    have hrd : ∀ y : Later w4, RdR entryS y.w (.slice ad d.es.length cap) d.es := fun y => (HR.out.new HB.out).new y.b
    go_upto_region 7 with fail
    have hne : Nonempty (Later w4) := ⟨⟨w4, Below.refl _ _⟩⟩; refine region_later (by kernel_rfl) (by kernel_rfl) ?_
    repeat (go_big_quiet_step (fail))
    go_big_quiet_want; go_big_quiet_op; refine ⟨.int .i64 q, fun y => later_calls (x := y) (hlv y.w (hrd y)), ?_⟩; go_big_quiet_on
    repeat (go_big_quiet_step (fail))
    refine wpQuiet_nil ?_; intro _ hw'; obtain ⟨y, hw''⟩ := hw'; subst hw''; have hby := y.b
    go_wp2_with fail
    go_ret
    exact ⟨by rw [HF.out]; rfl, bchain HB.out hby⟩
end Go.Proofs.Ytgodopiejiajjaa
