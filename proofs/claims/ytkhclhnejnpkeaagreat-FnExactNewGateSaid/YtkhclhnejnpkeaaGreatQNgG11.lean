/- Several small texts of one level, one behind the other. -/
import Derived.Test.YtkhclhnejnpkeaaGreatQNgG10
import Derived.Test.YtkhclhnejnpkeaaGreatQNgG2
import Derived.Deep.DeepCutAuto
import Derived.OpenShut
import Derived.ChangeOld
/- The program's registry: whether entries rise, where one is, how many live, whether it is full, whether it is right, a copy. -/
namespace Go.Proofs.YtkhclhnejnpkeaaGreat
open Go.RowKit
set_option maxRecDepth 100000
set_option linter.unusedSimpArgs false
set_option linter.unusedVariables false
set_option maxHeartbeats 4000000 in
theorem implRises (L : List EntryD) (v : Value) (w : World) (hr : RdR entryS w v L) (hL : L.length ≤ 60) :
    Calls Tryz.prog 145 #[v, .func (.func 146) #[] #[]] w fun x w' => x = .returned (.bool (risB L)) ∧ Below w.heap.size w w' := by
  obtain ⟨ad, cap, rfl, h1, h2⟩ := hr.form
  have HR := hide hr
  clear hr
  obtain ⟨A, hA⟩ : ∃ A, risB L = A := ⟨_, rfl⟩
  rw [hA]
  have HA := hide hA
  clear hA
  go_enter Tryz.func145, Tryz.ntmps145
  go_wp2_with fail
  go_loopw [5] (fun i wr => ∃ (k : Nat), i = .int .i64 (k + 1 : Nat) ∧ k ≤ 60 ∧ Hid (∀ j (hj : j + 1 < L.length), j < k → (L[j]'(by omega)).id < L[j + 1].id) ∧ Hid (Below w.heap.size w wr)) (fun i _ => L.length + 1 - (intOf i).toNat)
  case atStart => exact ⟨0, rfl, by omega, fun j _ hj => absurd hj (Nat.not_lt_zero _), Below.refl _ _⟩
  case round =>
    obtain ⟨k, rfl, hk, HN, HB⟩ := hrel
    by_cases hlt : k + 1 < L.length
    · obtain ⟨b, o, cs, rfl, hbw, rfl, hc⟩ := (HR.out.new HB.out).at k (by omega)
      obtain ⟨b', o', cs', hbo, _, rfl, hc'⟩ := (HR.out.new HB.out).at (k + 1) hlt
      simp only [Option.some.injEq, Addr.mk.injEq] at hbo
      obtain ⟨rfl, rfl, -⟩ := hbo
      have c0 : wr.cell? ⟨b, o + k * 2, none⟩ = some (.int .i64 L[k].id) := hc 0 _ rfl
      have c1 : wr.cell? ⟨b, o + k * 2 + 1, none⟩ = some (.int .i64 L[k].state) := hc 1 _ rfl
      have c2 : wr.cell? ⟨b, o + (k + 1) * 2, none⟩ = some (.int .i64 L[k + 1].id) := hc' 0 _ rfl
      have c3 : wr.cell? ⟨b, o + (k + 1) * 2 + 1, none⟩ = some (.int .i64 L[k + 1].state) := hc' 1 _ rfl
      clear hc hc'
      obtain ⟨e, he⟩ : ∃ e, L[k] = e := ⟨_, rfl⟩
      obtain ⟨f, hf⟩ : ∃ f, L[k + 1] = f := ⟨_, rfl⟩
      rw [he] at c0 c1
      rw [hf] at c2 c3
      have q0 : ∀ y : Later wr, y.w.cell? ⟨b, o + k * 2, none⟩ = some (.int .i64 e.id) := fun y => (y.b.cell (p := ⟨b, o + k * 2, none⟩) hbw).trans c0
      have q1 : ∀ y : Later wr, y.w.cell? ⟨b, o + k * 2 + 1, none⟩ = some (.int .i64 e.state) := fun y => (y.b.cell (p := ⟨b, o + k * 2 + 1, none⟩) hbw).trans c1
      have q2 : ∀ y : Later wr, y.w.cell? ⟨b, o + (k + 1) * 2, none⟩ = some (.int .i64 f.id) := fun y => (y.b.cell (p := ⟨b, o + (k + 1) * 2, none⟩) hbw).trans c2
      have q3 : ∀ y : Later wr, y.w.cell? ⟨b, o + (k + 1) * 2 + 1, none⟩ = some (.int .i64 f.state) := fun y => (y.b.cell (p := ⟨b, o + (k + 1) * 2 + 1, none⟩) hbw).trans c3
      have hbl := fun w => implBelow e f w
      clear c0 c1 c2 c3
      cases hq : decide (e.id < f.id)
      · have HF : Hid (A = false) := by
          show A = false
          rw [← HA.out]
          cases hz : risB L
          · rfl
          · have := (risB_iff L).1 hz k hlt
            rw [he, hf] at this
            exact absurd this (of_decide_eq_false hq)
        rw [hq] at hbl
        clear hq he hf
        go_upto_region 4 with fail
        have hne : Nonempty (Later wr) := ⟨⟨wr, Below.refl _ _⟩⟩; refine region_later (by kernel_rfl) (by kernel_rfl) ?_
        repeat (go_big_quiet_step (fail))
        go_big_quiet_want; go_big_quiet_op; refine ⟨.bool false, fun y => later_calls (x := y) (hbl y.w), ?_⟩; go_big_quiet_on
        repeat (go_big_quiet_step (fail))
        refine wpQuiet_nil ?_; intro _ hw'; obtain ⟨y, hw''⟩ := hw'; subst hw''; have hby := y.b
        go_wp2_with fail
        go_ret
        exact ⟨by rw [HF.out]; rfl, bchain HB.out hby⟩
      · have HN2 : Hid (∀ j (hj : j + 1 < L.length), j < k + 1 → (L[j]'(by omega)).id < L[j + 1].id) := fun j hj hjk => by
          by_cases ej : j = k
          · subst ej; rw [he, hf]; exact of_decide_eq_true hq
          · exact HN.out j hj (by omega)
        rw [hq] at hbl
        clear hq he hf
        go_upto_region 4 with fail
        have hne : Nonempty (Later wr) := ⟨⟨wr, Below.refl _ _⟩⟩; refine region_later (by kernel_rfl) (by kernel_rfl) ?_
        repeat (go_big_quiet_step (fail))
        go_big_quiet_want; go_big_quiet_op; refine ⟨.bool true, fun y => later_calls (x := y) (hbl y.w), ?_⟩; go_big_quiet_on
        repeat (go_big_quiet_step (fail))
        refine wpQuiet_nil ?_; intro _ hw'; obtain ⟨y, hw''⟩ := hw'; subst hw''; have hby := y.b
        have HB2 := hide (bchain HB.out hby)
        go_wp2_with fail
        go_roundw
        case rel => exact ⟨k + 1, by go_num, by omega, HN2, HB2⟩
        case measure => simp [intOf]; omega
    · have HF : Hid (A = true) := by
        show A = true
        rw [← HA.out]
        exact (risB_iff L).2 fun i hi => HN.out i hi (by omega)
      have hge : ¬ ((k + 1 : Nat) : Int) < (L.length : Int) := by omega
      go_wp2_with fail
      go_ret
      exact ⟨by rw [HF.out]; rfl, HB.out⟩
theorem keep_live (L : List EntryD) : ((keep [.inl false] L).length : Int) = liveL L := by
  have := (live_filter L).2
  rw [← this]
  unfold keep
  congr 2
  simp [wnP, liB]
set_option maxHeartbeats 1000000 in
theorem implLiveL (d : RegistryD) (v : Value) (w : World) (hr : RdR entryS w v d.es) (hL : d.es.length ≤ 60) : Calls Tryz.prog 147 #[.agg #[.int .i64 d.lim, .int .i64 d.top, v]] w fun x w' => x = .returned (.int .i64 (liveL d.es)) ∧ Below w.heap.size w w' := by
  obtain ⟨ad, cap, rfl, h1, h2⟩ := hr.form
  have HR := hide hr
  clear hr
  obtain ⟨A, hA⟩ : ∃ A, liveL d.es = A := ⟨_, rfl⟩
  have HKL : Hid (((keep [.inl false] d.es).length : Int) = A) := by rw [← hA]; exact keep_live d.es
  rw [hA]
  clear hA
  go_enter Tryz.func147, Tryz.ntmps147
  go_wp2_with fail
  refine (implList d _ _ (HR.out.new (by repeat' (first | (with_reducible exact Below.refl _ _) | (with_reducible refine Below.drew ?_) | (with_reducible refine bo_drewN _ ?_) | (with_reducible refine bo_alloc ?_ _) | (refine bchain ?_ (by with_reducible assumption)) | (with_reducible refine Below.setCell ?_ ?_ _) | go_size)))).mono ?_; rintro z w1 ⟨rfl, hb1⟩
  have HB := hide (bchain (bo_alloc (Below.refl _ _) _) hb1)
  clear hb1
  go_wp2_with fail
  have hbF : Below w1.heap.size w1 (w1.alloc (.cells #[.func (.func 162) #[] #[]] 179)) := (Below.refl _ _).alloc (Nat.le_refl _) _
  have hF : Reads (w1.alloc (.cells #[.func (.func 162) #[] #[]] 179)) (.slice (some ⟨w1.heap.size, 0, none⟩) 1 1) 1 1 (([.inl false] : List Wn).map wnV) := reads_of_owns (owns_lit w1 179 1 1 #[.func (.func 162) #[] #[]] rfl (by omega))
  replace HB := hide (bchain HB.out hbF)
  refine (implOnly d.es [.inl false] _ (some ⟨w1.heap.size, 0, none⟩) 1 _ (HR.out.new HB.out) hF hL (by decide)).mono ?_
  rintro z w2 ⟨v2, rfl, ho2, hb2⟩
  obtain ⟨a2, p2, rfl, _⟩ := owns_form ho2
  replace HB := hide (bchain HB.out hb2)
  have hkl := keep_len [.inl false] d.es
  clear hF hbF hb2 ho2
  go_wp2_with fail
  go_ret
  exact ⟨by rw [← HKL.out]; rfl, HB.out⟩
theorem keep_all (L : List EntryD) (l t : Int) (a : Option Addr) (n c : Nat) : (keep [.inl true, .inr (l, t, a, n, c)] L).length = L.length ↔ L.all (entOk t) = true := by
  unfold keep
  rw [List.length_filter_eq_length_iff, List.all_eq_true]
  refine forall_congr' fun e => forall_congr' fun _ => ?_
  have : (([.inl true, .inr (l, t, a, n, c)] : List Wn).all fun x => wnP x e) = entOk t e := by
    simp only [List.all_cons, List.all_nil, wnP, Bool.and_true, rtB, entOk, inB]
    cases idB e.id <;> cases decide (e.id ≤ t) <;> cases decide (1 ≤ e.state ∧ e.state ≤ 4) <;> rfl
  rw [this]
set_option maxHeartbeats 4000000 in
theorem implRightR (d : RegistryD) (v : Value) (w : World) (hr : RdR entryS w v d.es) : Calls Tryz.prog 127 #[.agg #[.int .i64 d.lim, .int .i64 d.top, v]] w fun x w' => x = .returned (.bool (okRg d)) ∧ Below w.heap.size w w' := by
  obtain ⟨ad, cap, rfl, h1, h2⟩ := hr.form
  have HR := hide hr
  clear hr
  obtain ⟨A, hA⟩ : ∃ A, okRg d = A := ⟨_, rfl⟩
  rw [hA]
  have HA : Hid (A = (inB d.lim 0 20 && decide (d.top = 0 ∨ idB d.top = true) && decide (d.es.length ≤ 60) && d.es.all (entOk d.top) && risB d.es && decide (liveL d.es ≤ d.lim))) := hA.symm
  clear hA
  cases hT : decide (d.top = 0 ∨ idB d.top = true)
  · have hT' := of_decide_eq_false hT
    have HF : Hid (A = false) := by show A = false; rw [HA.out, hT]; cases inB d.lim 0 20 <;> rfl
    have ht0 : (d.top == 0) = false := by simpa using fun c => hT' (.inl c)
    have ht1 : idB d.top = false := by cases hq : idB d.top <;> simp_all
    clear hT hT'
    go_enter Tryz.func127, Tryz.ntmps127
    go_wp2_with fail
    refine (implId d.top _).mono ?_; rw [ht1]; rintro e w1 ⟨rfl, hsame⟩; obtain rfl := hsame.symm; clear hsame
    go_wp2_with fail
    refine (implWithin _ _ _ _).mono ?_
    cases hlim : inB d.lim 0 20
    · rintro e w1 ⟨rfl, hsame⟩; obtain rfl := hsame.symm; clear hsame
      go_wp2_with fail
      go_ret
      exact ⟨by rw [HF.out]; rfl, (by repeat' (first | (with_reducible exact Below.refl _ _) | (with_reducible refine Below.drew ?_) | (with_reducible refine bo_drewN _ ?_) | (with_reducible refine bo_alloc ?_ _) | (refine bchain ?_ (by with_reducible assumption)) | (with_reducible refine Below.setCell ?_ ?_ _) | go_size))⟩
    · rintro e w1 ⟨rfl, hsame⟩; obtain rfl := hsame.symm; clear hsame
      go_wp2_with fail
      go_ret
      exact ⟨by rw [HF.out]; rfl, (by repeat' (first | (with_reducible exact Below.refl _ _) | (with_reducible refine Below.drew ?_) | (with_reducible refine bo_drewN _ ?_) | (with_reducible refine bo_alloc ?_ _) | (refine bchain ?_ (by with_reducible assumption)) | (with_reducible refine Below.setCell ?_ ?_ _) | go_size))⟩
  have two : (d.top = 0) ∨ ((d.top == 0) = false ∧ idB d.top = true) := by
    by_cases h : d.top = 0
    · exact .inl h
    · exact .inr ⟨by simpa using h, (of_decide_eq_true hT).resolve_left h⟩
  have hid := fun w => implId d.top w
  have hlm := fun w => implWithin d.lim 0 20 w
  cases hlim : inB d.lim 0 20
  · rw [hlim] at hlm
    have HF : Hid (A = false) := by show A = false; rw [HA.out, hlim]; rfl
    clear hT
    rcases two with ht0 | ⟨ht0, ht1⟩
    · rw [ht0] at *
      go_enter Tryz.func127, Tryz.ntmps127
      go_wp2_with fail
      refine (hlm _).mono ?_; rintro e w1 ⟨rfl, hsame⟩; obtain rfl := hsame.symm; clear hsame
      go_wp2_with fail
      go_ret
      exact ⟨by rw [HF.out]; rfl, (by repeat' (first | (with_reducible exact Below.refl _ _) | (with_reducible refine Below.drew ?_) | (with_reducible refine bo_drewN _ ?_) | (with_reducible refine bo_alloc ?_ _) | (refine bchain ?_ (by with_reducible assumption)) | (with_reducible refine Below.setCell ?_ ?_ _) | go_size))⟩
    · rw [ht1] at hid
      go_enter Tryz.func127, Tryz.ntmps127
      go_wp2_with fail
      refine (hid _).mono ?_; rintro e w1 ⟨rfl, hsame⟩; obtain rfl := hsame.symm; clear hsame
      go_wp2_with fail
      refine (hlm _).mono ?_; rintro e w1 ⟨rfl, hsame⟩; obtain rfl := hsame.symm; clear hsame
      go_wp2_with fail
      go_ret
      exact ⟨by rw [HF.out]; rfl, (by repeat' (first | (with_reducible exact Below.refl _ _) | (with_reducible refine Below.drew ?_) | (with_reducible refine bo_drewN _ ?_) | (with_reducible refine bo_alloc ?_ _) | (refine bchain ?_ (by with_reducible assumption)) | (with_reducible refine Below.setCell ?_ ?_ _) | go_size))⟩
  rw [hlim] at hlm
  by_cases h60 : (60 : Int) < d.es.length
  · have HF : Hid (A = false) := by show A = false; rw [HA.out, hlim, hT, show decide (d.es.length ≤ 60) = false from decide_eq_false (by omega)]; rfl
    clear hT
    rcases two with ht0 | ⟨ht0, ht1⟩
    · rw [ht0] at *
      go_enter Tryz.func127, Tryz.ntmps127
      go_wp2_with fail
      refine (hlm _).mono ?_; rintro e w1 ⟨rfl, hsame⟩; obtain rfl := hsame.symm; clear hsame
      go_wp2_with fail
      go_ret
      exact ⟨by rw [HF.out]; rfl, (by repeat' (first | (with_reducible exact Below.refl _ _) | (with_reducible refine Below.drew ?_) | (with_reducible refine bo_drewN _ ?_) | (with_reducible refine bo_alloc ?_ _) | (refine bchain ?_ (by with_reducible assumption)) | (with_reducible refine Below.setCell ?_ ?_ _) | go_size))⟩
    · rw [ht1] at hid
      go_enter Tryz.func127, Tryz.ntmps127
      go_wp2_with fail
      refine (hid _).mono ?_; rintro e w1 ⟨rfl, hsame⟩; obtain rfl := hsame.symm; clear hsame
      go_wp2_with fail
      refine (hlm _).mono ?_; rintro e w1 ⟨rfl, hsame⟩; obtain rfl := hsame.symm; clear hsame
      go_wp2_with fail
      go_ret
      exact ⟨by rw [HF.out]; rfl, (by repeat' (first | (with_reducible exact Below.refl _ _) | (with_reducible refine Below.drew ?_) | (with_reducible refine bo_drewN _ ?_) | (with_reducible refine bo_alloc ?_ _) | (refine bchain ?_ (by with_reducible assumption)) | (with_reducible refine Below.setCell ?_ ?_ _) | go_size))⟩
  have hL : d.es.length ≤ 60 := by omega
  have HA2 : Hid (A = (d.es.all (entOk d.top) && risB d.es && decide (liveL d.es ≤ d.lim))) := by show A = _; rw [HA.out, hlim, hT, show decide (d.es.length ≤ 60) = true from decide_eq_true hL]; simp only [Bool.true_and]
  clear hT HA hlim
  have hls := implList d (.slice ad d.es.length cap)
  have hkp := keep_all d.es d.lim d.top ad d.es.length cap
  have honly := implOnly d.es [.inl true, .inr (d.lim, d.top, ad, d.es.length, cap)] (.slice ad d.es.length cap)
  have hris := implRises d.es (.slice ad d.es.length cap)
  have hlv := fun w h => implLiveL d (.slice ad d.es.length cap) w h hL
  obtain ⟨q, hq⟩ : ∃ q, liveL d.es = q := ⟨_, rfl⟩
  rw [hq] at hlv HA2
  clear hq
  obtain ⟨M, hM⟩ : ∃ M, keep [.inl true, .inr (d.lim, d.top, ad, d.es.length, cap)] d.es = M := ⟨_, rfl⟩
  rw [hM] at hkp honly
  have hml : M.length ≤ d.es.length := by rw [← hM]; exact keep_len _ _
  have HKP := hide hkp
  clear hM hkp
  rcases two with ht0 | ⟨ht0, ht1⟩
  · have HT0 := hide ht0
    have ht2 : (d.top == 0) = true := by simpa using ht0
    clear ht0
    go_enter Tryz.func127, Tryz.ntmps127
    go_upto_region 2 with fail
    generalize hV : w.alloc (.cells #[.int .i64 d.lim, .int .i64 d.top, .slice ad d.es.length cap] 57) = V
    have hbV : Below w.heap.size w V := by rw [← hV]; exact (Below.refl _ _).alloc (Nat.le_refl _) _
    have HX : Hid (RowIs V w.heap.size 57 [.int .i64 d.lim, .int .i64 d.top, .slice ad d.es.length cap]) := by show RowIs _ _ _ _; rw [← hV]; exact rowIs_new w 57 [.int .i64 d.lim, .int .i64 d.top, .slice ad d.es.length cap]
    clear hV
    have HB := hide hbV
    clear hbV
    have x0 := HX.out.cell (j := 0) rfl
    have x1 := HX.out.cell (j := 1) rfl
    have x2 := HX.out.cell (j := 2) rfl
    have hlX := HX.out.lt
    go_wp2_with fail
    refine (hlm _).mono ?_; rintro e w1 ⟨rfl, hsame⟩; obtain rfl := hsame.symm; clear hsame
    go_wp2_with fail
    refine (hls _ (HR.out.new HB.out)).mono ?_; rintro z w2 ⟨rfl, hb2⟩
    replace HX := hide (HX.out.new hb2)
    replace HB := hide (bchain HB.out hb2)
    clear hb2 x0 x1 x2 hlX
    have x0 := HX.out.cell (j := 0) rfl
    have x1 := HX.out.cell (j := 1) rfl
    have x2 := HX.out.cell (j := 2) rfl
    have hlX := HX.out.lt
    go_wp2_with fail
    have hbF : Below w2.heap.size w2 (w2.alloc (.cells #[.func (.func 143) #[] #[], .func (.func 144) #[.agg #[.int .i64 d.lim, .int .i64 d.top, .slice ad d.es.length cap]] #[]] 179)) := (Below.refl _ _).alloc (Nat.le_refl _) _
    have hF : Reads (w2.alloc (.cells #[.func (.func 143) #[] #[], .func (.func 144) #[.agg #[.int .i64 d.lim, .int .i64 d.top, .slice ad d.es.length cap]] #[]] 179)) (.slice (some ⟨w2.heap.size, 0, none⟩) 2 2) 2 1 (([.inl true, .inr (d.lim, d.top, ad, d.es.length, cap)] : List Wn).map wnV) := reads_of_owns (owns_lit w2 179 1 2 #[.func (.func 143) #[] #[], .func (.func 144) #[.agg #[.int .i64 d.lim, .int .i64 d.top, .slice ad d.es.length cap]] #[]] rfl (by omega))
    replace HX := hide (HX.out.new hbF)
    replace HB := hide (bchain HB.out hbF)
    refine (honly (some ⟨w2.heap.size, 0, none⟩) 2 _ (HR.out.new HB.out) hF hL (by simp)).mono ?_
    rintro z w3 ⟨v3, rfl, ho3, hb3⟩
    obtain ⟨a3, p3, rfl, _⟩ := owns_form ho3
    replace HX := hide (HX.out.new hb3)
    replace HB := hide (bchain HB.out hb3)
    clear hF hbF hb3 ho3 x0 x1 x2 hlX
    by_cases hml2 : M.length = d.es.length
    rotate_left
    · have hne : ((M.length : Int) != d.es.length) = true := by simp; omega
      have HF : Hid (A = false) := by
        show A = false
        rw [HA2.out]
        cases hq : d.es.all (entOk d.top)
        · rfl
        · exact absurd (HKP.out.2 hq) hml2
      clear hml2
      go_wp2_with fail
      go_ret
      exact ⟨by rw [HF.out]; rfl, HB.out⟩
    have hne : ((M.length : Int) != d.es.length) = false := by simp; omega
    have HA3 : Hid (A = (risB d.es && decide (q ≤ d.lim))) := by show A = _; rw [HA2.out, HKP.out.1 hml2]; simp
    clear hml2 HA2
    go_wp2_with fail
    refine (hris _ (HR.out.new HB.out) hL).mono ?_
    cases hrs : risB d.es
    · rintro z w4 ⟨rfl, hb4⟩
      have HF : Hid (A = false) := by show A = false; rw [HA3.out, hrs]; rfl
      replace HB := hide (bchain HB.out hb4)
      clear hb4
      go_wp2_with fail
      go_ret
      exact ⟨by rw [HF.out]; rfl, HB.out⟩
    rintro z w4 ⟨rfl, hb4⟩
    have HF : Hid (A = decide (q ≤ d.lim)) := by show A = _; rw [HA3.out, hrs]; simp
    replace HX := hide (HX.out.new hb4)
    replace HB := hide (bchain HB.out hb4)
    clear hb4 hrs HA3
    have x0 := HX.out.cell (j := 0) rfl
    have x1 := HX.out.cell (j := 1) rfl
    have x2 := HX.out.cell (j := 2) rfl
    have hlX := HX.out.lt
    have q0 : ∀ y : Later w4, y.w.cell? ⟨w.heap.size, 0, none⟩ = some (.int .i64 d.lim) := fun y => (y.b.cell (p := ⟨w.heap.size, 0, none⟩) hlX).trans x0
    have q1 : ∀ y : Later w4, y.w.cell? ⟨w.heap.size, 1, none⟩ = some (.int .i64 d.top) := fun y => (y.b.cell (p := ⟨w.heap.size, 1, none⟩) hlX).trans x1
    have q2 : ∀ y : Later w4, y.w.cell? ⟨w.heap.size, 2, none⟩ = some (.slice ad d.es.length cap) := fun y => (y.b.cell (p := ⟨w.heap.size, 2, none⟩) hlX).trans x2
    clear x0 x1 x2
    have hrd : ∀ y : Later w4, RdR entryS y.w (.slice ad d.es.length cap) d.es := fun y => (HR.out.new HB.out).new y.b
    go_upto_region 7 with fail
    have hne : Nonempty (Later w4) := ⟨⟨w4, Below.refl _ _⟩⟩; refine region_later (by kernel_rfl) (by kernel_rfl) ?_
    repeat (go_big_quiet_step (fail))
    go_big_quiet_want; go_big_quiet_op; refine ⟨.int .i64 q, fun y => later_calls (x := y) (hlv y.w (hrd y)), ?_⟩; go_big_quiet_on
    repeat (go_big_quiet_step (fail))
    refine wpQuiet_nil ?_; intro _ hw'; obtain ⟨y, hw''⟩ := hw'; subst hw''; have hby := y.b
    go_wp2_with fail
    go_ret
    exact ⟨by rw [HF.out]; rfl, bchain HB.out hby⟩
  · rw [ht1] at hid
    go_enter Tryz.func127, Tryz.ntmps127
    go_wp2_with fail
    refine (hid _).mono ?_; rintro e w1 ⟨rfl, hsame⟩; obtain rfl := hsame.symm; clear hsame
    go_upto_region 2 with fail
    generalize hV : w.alloc (.cells #[.int .i64 d.lim, .int .i64 d.top, .slice ad d.es.length cap] 57) = V
    have hbV : Below w.heap.size w V := by rw [← hV]; exact (Below.refl _ _).alloc (Nat.le_refl _) _
    have HX : Hid (RowIs V w.heap.size 57 [.int .i64 d.lim, .int .i64 d.top, .slice ad d.es.length cap]) := by show RowIs _ _ _ _; rw [← hV]; exact rowIs_new w 57 [.int .i64 d.lim, .int .i64 d.top, .slice ad d.es.length cap]
    clear hV
    have HB := hide hbV
    clear hbV
    have x0 := HX.out.cell (j := 0) rfl
    have x1 := HX.out.cell (j := 1) rfl
    have x2 := HX.out.cell (j := 2) rfl
    have hlX := HX.out.lt
    go_wp2_with fail
    refine (hlm _).mono ?_; rintro e w1 ⟨rfl, hsame⟩; obtain rfl := hsame.symm; clear hsame
    go_wp2_with fail
    refine (hls _ (HR.out.new HB.out)).mono ?_; rintro z w2 ⟨rfl, hb2⟩
    replace HX := hide (HX.out.new hb2)
    replace HB := hide (bchain HB.out hb2)
    clear hb2 x0 x1 x2 hlX
    have x0 := HX.out.cell (j := 0) rfl
    have x1 := HX.out.cell (j := 1) rfl
    have x2 := HX.out.cell (j := 2) rfl
    have hlX := HX.out.lt
    go_wp2_with fail
    have hbF : Below w2.heap.size w2 (w2.alloc (.cells #[.func (.func 143) #[] #[], .func (.func 144) #[.agg #[.int .i64 d.lim, .int .i64 d.top, .slice ad d.es.length cap]] #[]] 179)) := (Below.refl _ _).alloc (Nat.le_refl _) _
    have hF : Reads (w2.alloc (.cells #[.func (.func 143) #[] #[], .func (.func 144) #[.agg #[.int .i64 d.lim, .int .i64 d.top, .slice ad d.es.length cap]] #[]] 179)) (.slice (some ⟨w2.heap.size, 0, none⟩) 2 2) 2 1 (([.inl true, .inr (d.lim, d.top, ad, d.es.length, cap)] : List Wn).map wnV) := reads_of_owns (owns_lit w2 179 1 2 #[.func (.func 143) #[] #[], .func (.func 144) #[.agg #[.int .i64 d.lim, .int .i64 d.top, .slice ad d.es.length cap]] #[]] rfl (by omega))
    replace HX := hide (HX.out.new hbF)
    replace HB := hide (bchain HB.out hbF)
    refine (honly (some ⟨w2.heap.size, 0, none⟩) 2 _ (HR.out.new HB.out) hF hL (by simp)).mono ?_
    rintro z w3 ⟨v3, rfl, ho3, hb3⟩
    obtain ⟨a3, p3, rfl, _⟩ := owns_form ho3
    replace HX := hide (HX.out.new hb3)
    replace HB := hide (bchain HB.out hb3)
    clear hF hbF hb3 ho3 x0 x1 x2 hlX
    by_cases hml2 : M.length = d.es.length
    rotate_left
    · have hne : ((M.length : Int) != d.es.length) = true := by simp; omega
      have HF : Hid (A = false) := by
        show A = false
        rw [HA2.out]
        cases hq : d.es.all (entOk d.top)
        · rfl
        · exact absurd (HKP.out.2 hq) hml2
      clear hml2
      go_wp2_with fail
      go_ret
      exact ⟨by rw [HF.out]; rfl, HB.out⟩
    have hne : ((M.length : Int) != d.es.length) = false := by simp; omega
    have HA3 : Hid (A = (risB d.es && decide (q ≤ d.lim))) := by show A = _; rw [HA2.out, HKP.out.1 hml2]; simp
    clear hml2 HA2
    go_wp2_with fail
    refine (hris _ (HR.out.new HB.out) hL).mono ?_
    cases hrs : risB d.es
    · rintro z w4 ⟨rfl, hb4⟩
      have HF : Hid (A = false) := by show A = false; rw [HA3.out, hrs]; rfl
      replace HB := hide (bchain HB.out hb4)
      clear hb4
      go_wp2_with fail
      go_ret
      exact ⟨by rw [HF.out]; rfl, HB.out⟩
    rintro z w4 ⟨rfl, hb4⟩
    have HF : Hid (A = decide (q ≤ d.lim)) := by show A = _; rw [HA3.out, hrs]; simp
    replace HX := hide (HX.out.new hb4)
    replace HB := hide (bchain HB.out hb4)
    clear hb4 hrs HA3
    have x0 := HX.out.cell (j := 0) rfl
    have x1 := HX.out.cell (j := 1) rfl
    have x2 := HX.out.cell (j := 2) rfl
    have hlX := HX.out.lt
    have q0 : ∀ y : Later w4, y.w.cell? ⟨w.heap.size, 0, none⟩ = some (.int .i64 d.lim) := fun y => (y.b.cell (p := ⟨w.heap.size, 0, none⟩) hlX).trans x0
    have q1 : ∀ y : Later w4, y.w.cell? ⟨w.heap.size, 1, none⟩ = some (.int .i64 d.top) := fun y => (y.b.cell (p := ⟨w.heap.size, 1, none⟩) hlX).trans x1
    have q2 : ∀ y : Later w4, y.w.cell? ⟨w.heap.size, 2, none⟩ = some (.slice ad d.es.length cap) := fun y => (y.b.cell (p := ⟨w.heap.size, 2, none⟩) hlX).trans x2
    clear x0 x1 x2
    have hrd : ∀ y : Later w4, RdR entryS y.w (.slice ad d.es.length cap) d.es := fun y => (HR.out.new HB.out).new y.b
    go_upto_region 7 with fail
    have hne : Nonempty (Later w4) := ⟨⟨w4, Below.refl _ _⟩⟩; refine region_later (by kernel_rfl) (by kernel_rfl) ?_
    repeat (go_big_quiet_step (fail))
    go_big_quiet_want; go_big_quiet_op; refine ⟨.int .i64 q, fun y => later_calls (x := y) (hlv y.w (hrd y)), ?_⟩; go_big_quiet_on
    repeat (go_big_quiet_step (fail))
    refine wpQuiet_nil ?_; intro _ hw'; obtain ⟨y, hw''⟩ := hw'; subst hw''; have hby := y.b
    go_wp2_with fail
    go_ret
    exact ⟨by rw [HF.out]; rfl, bchain HB.out hby⟩
end Go.Proofs.YtkhclhnejnpkeaaGreat
/- Chapter 15's program: whether tenants are right, where each name is (a map), a tenant in memory of its own. -/
namespace Go.Proofs.YtkhclhnejnpkeaaGreat
open Go.RowKit
set_option maxRecDepth 100000
set_option linter.unusedSimpArgs false
set_option linter.unusedVariables false
set_option maxHeartbeats 2000000 in
theorem implTenantsOk (L : List TenantD) (v : Value) (w : World) (hr : RdR tenantS w v L) : Calls Tryz.prog 41 #[v] w fun x w' => x = .returned (.bool (okTs L)) ∧ Below w.heap.size w w' := by
  obtain ⟨ad, cap, rfl, h1, h2⟩ := hr.form
  obtain ⟨A, hA⟩ : ∃ A, okTs L = A := ⟨_, rfl⟩
  rw [hA]
  have HA : Hid (A = (decide (L.length ≤ 8) && (decide (numT15 L = L.length) && risT L))) := by show A = _; rw [← hA, okTs_way]
  have HR := hide hr
  clear hA hr
  by_cases h8 : (8 : Int) < L.length
  · have HV : Hid (A = false) := by show A = _; rw [HA.out, decide_eq_false (by omega)]; rfl
    go_enter Tryz.func41, Tryz.ntmps41
    go_wp2_with fail
    go_ret
    exact ⟨by rw [HV.out]; rfl, (by repeat' (first | (with_reducible exact Below.refl _ _) | (with_reducible refine Below.drew ?_) | (with_reducible refine bo_drewN _ ?_) | (with_reducible refine bo_alloc ?_ _) | (refine bchain ?_ (by with_reducible assumption)) | (with_reducible refine Below.setCell ?_ ?_ _) | go_size))⟩
  have hL8 : L.length ≤ 8 := by omega
  have hbF : Below w.heap.size w (w.alloc (.cells #[.func (.func 81) #[] #[]] 145)) := (Below.refl _ _).alloc (Nat.le_refl _) _
  have hF : (w.alloc (.cells #[.func (.func 81) #[] #[]] 145)).cell? ⟨w.heap.size, 0, none⟩ = some (.func (.func 81) #[] #[]) := (rowIs_new w 145 [.func (.func 81) #[] #[]]).cell (j := 0) rfl
  have hO := implOnlyT L (.slice ad L.length cap) w.heap.size _ (HR.out.new hbF) hF (by simp) hL8
  have hRs := fun w h => implRisesT L (.slice ad L.length cap) w h hL8
  have hnl := num_le L
  have HB := hide hbF
  clear hbF hF
  obtain ⟨N, hN⟩ : ∃ N, numT15 L = N := ⟨_, rfl⟩
  rw [hN] at hO HA hnl
  clear hN
  by_cases hq : N = L.length
  · subst hq
    have HV : Hid (A = risT L) := by show A = _; rw [HA.out, decide_eq_true hL8]; simp
    go_enter Tryz.func41, Tryz.ntmps41
    go_wp2_with fail
    refine hO.mono ?_; rintro e w1 ⟨a1, p1, rfl, q1, q2, hb1⟩
    replace HB := hide (bchain HB.out hb1)
    clear hb1 hO
    go_wp2_with fail
    refine (hRs _ (HR.out.new HB.out)).mono ?_; rintro e w2 ⟨rfl, hb2⟩
    replace HB := hide (bchain HB.out hb2)
    clear hb2
    go_wp2_with fail
    go_ret
    exact ⟨by rw [HV.out]; rfl, HB.out⟩
  · have HV : Hid (A = false) := by show A = _; rw [HA.out, decide_eq_false hq]; simp
    have hqI : ¬ (N : Int) = L.length := by omega
    have hqB : ((N : Int) == (L.length : Int)) = false := by simpa using hqI
    go_enter Tryz.func41, Tryz.ntmps41
    go_wp2_with fail
    refine hO.mono ?_; rintro e w1 ⟨a1, p1, rfl, q1, q2, hb1⟩
    replace HB := hide (bchain HB.out hb1)
    clear hb1 hO
    go_wp2_with fail
    go_ret
    exact ⟨by rw [HV.out]; rfl, HB.out⟩
set_option maxHeartbeats 4000000 in
theorem implTApart (d : TenantD) (a : Option Addr) (p : Nat) (w : World) (hl : RdR strS w (.slice a d.list.length p) d.list) (h0 : d.nm.size ≤ 1000) (h1 : d.key.size ≤ 1000) (h2 : d.list.length ≤ 20) (h3 : ∀ s ∈ d.list, s.size ≤ 60) :
    Calls Tryz.prog 204 #[.agg #[.string d.nm, .string d.key, .slice a d.list.length p, .int .i64 d.quota]] w fun x w' => ∃ a' p', x = .returned (.agg #[.string d.nm, .string d.key, .slice a' d.list.length p', .int .i64 d.quota]) ∧ OwX strS w' w.heap.size w'.heap.size (.slice a' d.list.length p') d.list ∧ Below w.heap.size w w' := by
  obtain ⟨dn, dk, dl, dq⟩ := d
  dsimp only at hl h0 h1 h2 h3 ⊢
  have H3 := hide h3
  have cN := fun w => clone dn w (by omega)
  have cK := fun w => clone dk w (by omega)
  obtain ⟨_, _, hq, q1, q2⟩ := hl.form
  simp only [Value.slice.injEq] at hq
  obtain ⟨rfl, -, rfl⟩ := hq
  have hX : Below w.heap.size w (w.alloc (.cells #[.string dn, .string dk, .slice a dl.length p, .int .i64 dq] 88)) := (Below.refl _ _).alloc (Nat.le_refl _) _
  have hY : Below (w.alloc (.cells #[.string dn, .string dk, .slice a dl.length p, .int .i64 dq] 88)).heap.size (w.alloc (.cells #[.string dn, .string dk, .slice a dl.length p, .int .i64 dq] 88)) ((w.alloc (.cells #[.string dn, .string dk, .slice a dl.length p, .int .i64 dq] 88)).alloc (.cells #[.string ⟨#[]⟩, .string ⟨#[]⟩, .slice none 0 0, .int .i64 0] 88)) := (Below.refl _ _).alloc (Nat.le_refl _) _
  have R1 := (rowIs_new w 88 [.string dn, .string dk, .slice a dl.length p, .int .i64 dq]).new hY
  have R2 := rowIs_new (w.alloc (.cells #[.string dn, .string dk, .slice a dl.length p, .int .i64 dq] 88)) 88 [.string ⟨#[]⟩, .string ⟨#[]⟩, .slice none 0 0, .int .i64 0]
  have HB1 := hide (bchain hX hY)
  have HL1 := hide (hl.new HB1.out)
  have hs1 : ((w.alloc (.cells #[.string dn, .string dk, .slice a dl.length p, .int .i64 dq] 88)).alloc (.cells #[.string ⟨#[]⟩, .string ⟨#[]⟩, .slice none 0 0, .int .i64 0] 88)).heap.size = w.heap.size + 2 := by simp
  have hs0 : (w.alloc (.cells #[.string dn, .string dk, .slice a dl.length p, .int .i64 dq] 88)).heap.size = w.heap.size + 1 := by simp
  rw [hs0] at R2
  have HLW := hide hl
  clear hX hY hl h3 hs0
  go_enter Tryz.func204, Tryz.ntmps204
  go_upto_region 1 with fail
  generalize (w.alloc (.cells #[.string dn, .string dk, .slice a dl.length p, .int .i64 dq] 88)).alloc (.cells #[.string ⟨#[]⟩, .string ⟨#[]⟩, .slice none 0 0, .int .i64 0] 88) = w1 at *
  go_cut [3] (fun x wc => ∃ g, x = .pointer (some ⟨g, 0, none⟩) ∧ w1.heap.size ≤ g ∧ RowIs wc g 88 [.string dn, .string dk, .slice none 0 0, .int .i64 dq] ∧ Below w1.heap.size w1 wc)
  case first =>
    go_wp2_with fail
    refine wp_region_held_drew (S := (fun u => Below w1.heap.size w1 u)) (by kernel_rfl) ((Below.refl _ _).drew) (fun hS => ?_)
    generalize World.drew w1 = w9 at hS ⊢
    refine wpAnyH_take (i := 0) (v := ?_) rfl (by kernel_rfl) (by kernel_rfl) (by kernel_rfl) (fun _ _ _ h => h) (Or.inl ⟨by kernel_rfl, ?_⟩) hS ?_; rotate_left; focus (intro uu hu; clear hu; go_simp; try with_reducible rfl)
    try simp only [Act.put, List.getElem_toArray, List.getElem_cons_succ, List.getElem_cons_zero, List.setIfInBounds_toArray, List.set_cons_zero, List.set_cons_succ]
    refine wpAnyH_take (i := 1) (v := .string dn) rfl (by kernel_rfl) (by kernel_rfl) (by kernel_rfl) (fun _ _ _ h => h) (Or.inl ⟨by kernel_rfl, ?ld⟩) hS ?_; case ld => (intro uu hu; have R := R1.new hu; have x0 := RowIs.cell (j := 0) R rfl; have x1 := RowIs.cell (j := 1) R rfl; have x2 := RowIs.cell (j := 2) R rfl; have x3 := RowIs.cell (j := 3) R rfl; have x9 := fun j => RowIs.frozen R j; have x8 := R.lt; clear hu; go_simp)
    try simp only [Act.put, List.getElem_toArray, List.getElem_cons_succ, List.getElem_cons_zero, List.setIfInBounds_toArray, List.set_cons_zero, List.set_cons_succ]
    refine wpAnyH_take (i := 3) (v := ?_) rfl (by kernel_rfl) (by kernel_rfl) (by kernel_rfl) (fun _ _ _ h => h) (Or.inl ⟨by kernel_rfl, ?_⟩) hS ?_; rotate_left; focus (intro uu hu; clear hu; go_simp; try with_reducible rfl)
    try simp only [Act.put, List.getElem_toArray, List.getElem_cons_succ, List.getElem_cons_zero, List.setIfInBounds_toArray, List.set_cons_zero, List.set_cons_succ]
    refine wpAnyH_take (i := 4) (v := .string dk) rfl (by kernel_rfl) (by kernel_rfl) (by kernel_rfl) (fun _ _ _ h => h) (Or.inl ⟨by kernel_rfl, ?ld⟩) hS ?_; case ld => (intro uu hu; have R := R1.new hu; have x0 := RowIs.cell (j := 0) R rfl; have x1 := RowIs.cell (j := 1) R rfl; have x2 := RowIs.cell (j := 2) R rfl; have x3 := RowIs.cell (j := 3) R rfl; have x9 := fun j => RowIs.frozen R j; have x8 := R.lt; clear hu; go_simp)
    try simp only [Act.put, List.getElem_toArray, List.getElem_cons_succ, List.getElem_cons_zero, List.setIfInBounds_toArray, List.set_cons_zero, List.set_cons_succ]
    refine wpAnyH_take (i := 6) (v := ?_) rfl (by kernel_rfl) (by kernel_rfl) (by kernel_rfl) (fun _ _ _ h => h) (Or.inl ⟨by kernel_rfl, ?_⟩) hS ?_; rotate_left; focus (intro uu hu; clear hu; go_simp; try with_reducible rfl)
    try simp only [Act.put, List.getElem_toArray, List.getElem_cons_succ, List.getElem_cons_zero, List.setIfInBounds_toArray, List.set_cons_zero, List.set_cons_succ]
    refine wpAnyH_take (i := 7) (v := .int .i64 dq) rfl (by kernel_rfl) (by kernel_rfl) (by kernel_rfl) (fun _ _ _ h => h) (Or.inl ⟨by kernel_rfl, ?ld⟩) hS ?_; case ld => (intro uu hu; have R := R1.new hu; have x0 := RowIs.cell (j := 0) R rfl; have x1 := RowIs.cell (j := 1) R rfl; have x2 := RowIs.cell (j := 2) R rfl; have x3 := RowIs.cell (j := 3) R rfl; have x9 := fun j => RowIs.frozen R j; have x8 := R.lt; clear hu; go_simp)
    try simp only [Act.put, List.getElem_toArray, List.getElem_cons_succ, List.getElem_cons_zero, List.setIfInBounds_toArray, List.set_cons_zero, List.set_cons_succ]
    refine wpAnyH_ready (rs := [2, 9]) (by kernel_rfl) (by simp) ?_
    refine (AllReadyH.cons rfl (fun K hK => ?_) (AllReadyH.cons rfl (fun K hK => ?_) AllReadyH.nil))
    · skip
      rw [if_pos (by kernel_rfl)]
      go_simp
      refine (cN _).mono ?_; rintro e u1 ⟨rfl, hbu1⟩
      refine hK.out _ _ (bchain hS hbu1) (fun hS => ?_)
      clear hK K
      try simp only [Act.put, List.getElem_toArray, List.getElem_cons_succ, List.getElem_cons_zero, List.setIfInBounds_toArray, List.set_cons_zero, List.set_cons_succ]
      refine wpAnyH_ready (rs := [5, 9]) (by kernel_rfl) (by simp) ?_
      refine (AllReadyH.cons rfl (fun K hK => ?_) (AllReadyH.cons rfl (fun K hK => ?_) AllReadyH.nil))
      · skip
        rw [if_pos (by kernel_rfl)]
        go_simp
        refine (cK _).mono ?_; rintro e u2 ⟨rfl, hbu2⟩
        refine hK.out _ _ (bchain hS hbu2) (fun hS => ?_)
        clear hK K
        try simp only [Act.put, List.getElem_toArray, List.getElem_cons_succ, List.getElem_cons_zero, List.setIfInBounds_toArray, List.set_cons_zero, List.set_cons_succ]
        refine wpAnyH_take (i := 8) (v := .agg #[.string dn, .string dk, .slice none 0 0, .int .i64 dq]) rfl (by kernel_rfl) (by kernel_rfl) (by kernel_rfl) (fun _ _ _ h => h) (Or.inl ⟨by kernel_rfl, ?ld⟩) hS ?_; case ld => (intro uu hu; clear hu; go_simp)
        try simp only [Act.put, List.getElem_toArray, List.getElem_cons_succ, List.getElem_cons_zero, List.setIfInBounds_toArray, List.set_cons_zero, List.set_cons_succ]
        refine wpAnyH_ready (rs := [9]) (by kernel_rfl) (by simp) ?_
        refine (AllReadyH.cons rfl (fun K hK => ?_) AllReadyH.nil)
        rw [if_pos (by kernel_rfl)]
        go_simp
        obtain ⟨u3, hu3⟩ : ∃ u, u2.alloc (.cells #[.string ⟨#[]⟩, .string ⟨#[]⟩, .slice none 0 0, .int .i64 0] 88) = u := ⟨_, rfl⟩
        have hbu3 : Below u2.heap.size u2 u3 := by rw [← hu3]; exact (Below.refl _ _).alloc (Nat.le_refl _) _
        obtain ⟨g, hgu3⟩ : ∃ g, g = u2.heap.size := ⟨_, rfl⟩
        have HT : Hid (RowIs u3 g 88 [.string ⟨#[]⟩, .string ⟨#[]⟩, .slice none 0 0, .int .i64 0]) := by show _; rw [← hu3, hgu3]; exact rowIs_new _ _ _
        have hgl : w1.heap.size ≤ g := by have := hS.size; omega
        rw [hu3, ← hgu3]
        clear hu3 hgu3
        refine hK.out _ _ (bchain hS hbu3) (fun hS => ?_)
        clear hK K hbu3
        try simp only [Act.put, List.getElem_toArray, List.getElem_cons_succ, List.getElem_cons_zero, List.setIfInBounds_toArray, List.set_cons_zero, List.set_cons_succ]
        refine wpAnyH_ready (rs := [10]) (by kernel_rfl) (by simp) ?_
        refine (AllReadyH.cons rfl (fun K hK => ?_) AllReadyH.nil)
        rw [if_pos (by kernel_rfl)]
        have R5 := hide (rowIs_setRow (cs' := [.string dn, .string dk, .slice none 0 0, .int .i64 dq]) HT.out)
        have hS2 := below_setRow hS hgl #[.string dn, .string dk, .slice none 0 0, .int .i64 dq]
        refine wp_store_row 88 (.tmp 3) (.tmp 14) rfl g #[.string dn, .string dk, .slice none 0 0, .int .i64 dq] rfl rfl 88 #[.string ⟨#[]⟩, .string ⟨#[]⟩, .slice none 0 0, .int .i64 0] HT.out (by kernel_rfl) rfl (by simp [Value.oneCell']) ?_
        refine hK.out _ _ hS2 (fun hS => ?_)
        clear hK K hS
        try simp only [Act.put, List.getElem_toArray, List.getElem_cons_succ, List.getElem_cons_zero, List.setIfInBounds_toArray, List.set_cons_zero, List.set_cons_succ]
        refine wpAnyH_done (by kernel_rfl) ?_ _
        go_wp2_with fail
        go_meet
        exact ⟨g, rfl, hgl, R5.out, hS2⟩
      · skip
        rw [if_pos (by kernel_rfl)]
        go_simp
        obtain ⟨u4, hu4⟩ : ∃ u, u1.alloc (.cells #[.string ⟨#[]⟩, .string ⟨#[]⟩, .slice none 0 0, .int .i64 0] 88) = u := ⟨_, rfl⟩
        have hbu4 : Below u1.heap.size u1 u4 := by rw [← hu4]; exact (Below.refl _ _).alloc (Nat.le_refl _) _
        obtain ⟨g, hgu4⟩ : ∃ g, g = u1.heap.size := ⟨_, rfl⟩
        have HT : Hid (RowIs u4 g 88 [.string ⟨#[]⟩, .string ⟨#[]⟩, .slice none 0 0, .int .i64 0]) := by show _; rw [← hu4, hgu4]; exact rowIs_new _ _ _
        have hgl : w1.heap.size ≤ g := by have := hS.size; omega
        rw [hu4, ← hgu4]
        clear hu4 hgu4
        refine hK.out _ _ (bchain hS hbu4) (fun hS => ?_)
        clear hK K hbu4
        try simp only [Act.put, List.getElem_toArray, List.getElem_cons_succ, List.getElem_cons_zero, List.setIfInBounds_toArray, List.set_cons_zero, List.set_cons_succ]
        refine wpAnyH_ready (rs := [5]) (by kernel_rfl) (by simp) ?_
        refine (AllReadyH.cons rfl (fun K hK => ?_) AllReadyH.nil)
        rw [if_pos (by kernel_rfl)]
        go_simp
        refine (cK _).mono ?_; rintro e u5 ⟨rfl, hbu5⟩
        replace HT := hide (HT.out.new hbu5)
        refine hK.out _ _ (bchain hS hbu5) (fun hS => ?_)
        clear hK K
        try simp only [Act.put, List.getElem_toArray, List.getElem_cons_succ, List.getElem_cons_zero, List.setIfInBounds_toArray, List.set_cons_zero, List.set_cons_succ]
        refine wpAnyH_take (i := 8) (v := .agg #[.string dn, .string dk, .slice none 0 0, .int .i64 dq]) rfl (by kernel_rfl) (by kernel_rfl) (by kernel_rfl) (fun _ _ _ h => h) (Or.inl ⟨by kernel_rfl, ?ld⟩) hS ?_; case ld => (intro uu hu; clear hu; go_simp)
        try simp only [Act.put, List.getElem_toArray, List.getElem_cons_succ, List.getElem_cons_zero, List.setIfInBounds_toArray, List.set_cons_zero, List.set_cons_succ]
        refine wpAnyH_ready (rs := [10]) (by kernel_rfl) (by simp) ?_
        refine (AllReadyH.cons rfl (fun K hK => ?_) AllReadyH.nil)
        rw [if_pos (by kernel_rfl)]
        have R5 := hide (rowIs_setRow (cs' := [.string dn, .string dk, .slice none 0 0, .int .i64 dq]) HT.out)
        have hS2 := below_setRow hS hgl #[.string dn, .string dk, .slice none 0 0, .int .i64 dq]
        refine wp_store_row 88 (.tmp 3) (.tmp 14) rfl g #[.string dn, .string dk, .slice none 0 0, .int .i64 dq] rfl rfl 88 #[.string ⟨#[]⟩, .string ⟨#[]⟩, .slice none 0 0, .int .i64 0] HT.out (by kernel_rfl) rfl (by simp [Value.oneCell']) ?_
        refine hK.out _ _ hS2 (fun hS => ?_)
        clear hK K hS
        try simp only [Act.put, List.getElem_toArray, List.getElem_cons_succ, List.getElem_cons_zero, List.setIfInBounds_toArray, List.set_cons_zero, List.set_cons_succ]
        refine wpAnyH_done (by kernel_rfl) ?_ _
        go_wp2_with fail
        go_meet
        exact ⟨g, rfl, hgl, R5.out, hS2⟩
    · skip
      rw [if_pos (by kernel_rfl)]
      go_simp
      obtain ⟨u6, hu6⟩ : ∃ u, w9.alloc (.cells #[.string ⟨#[]⟩, .string ⟨#[]⟩, .slice none 0 0, .int .i64 0] 88) = u := ⟨_, rfl⟩
      have hbu6 : Below w9.heap.size w9 u6 := by rw [← hu6]; exact (Below.refl _ _).alloc (Nat.le_refl _) _
      obtain ⟨g, hgu6⟩ : ∃ g, g = w9.heap.size := ⟨_, rfl⟩
      have HT : Hid (RowIs u6 g 88 [.string ⟨#[]⟩, .string ⟨#[]⟩, .slice none 0 0, .int .i64 0]) := by show _; rw [← hu6, hgu6]; exact rowIs_new _ _ _
      have hgl : w1.heap.size ≤ g := by have := hS.size; omega
      rw [hu6, ← hgu6]
      clear hu6 hgu6
      refine hK.out _ _ (bchain hS hbu6) (fun hS => ?_)
      clear hK K hbu6
      try simp only [Act.put, List.getElem_toArray, List.getElem_cons_succ, List.getElem_cons_zero, List.setIfInBounds_toArray, List.set_cons_zero, List.set_cons_succ]
      refine wpAnyH_ready (rs := [2]) (by kernel_rfl) (by simp) ?_
      refine (AllReadyH.cons rfl (fun K hK => ?_) AllReadyH.nil)
      rw [if_pos (by kernel_rfl)]
      go_simp
      refine (cN _).mono ?_; rintro e u7 ⟨rfl, hbu7⟩
      replace HT := hide (HT.out.new hbu7)
      refine hK.out _ _ (bchain hS hbu7) (fun hS => ?_)
      clear hK K
      try simp only [Act.put, List.getElem_toArray, List.getElem_cons_succ, List.getElem_cons_zero, List.setIfInBounds_toArray, List.set_cons_zero, List.set_cons_succ]
      refine wpAnyH_ready (rs := [5]) (by kernel_rfl) (by simp) ?_
      refine (AllReadyH.cons rfl (fun K hK => ?_) AllReadyH.nil)
      rw [if_pos (by kernel_rfl)]
      go_simp
      refine (cK _).mono ?_; rintro e u8 ⟨rfl, hbu8⟩
      replace HT := hide (HT.out.new hbu8)
      refine hK.out _ _ (bchain hS hbu8) (fun hS => ?_)
      clear hK K
      try simp only [Act.put, List.getElem_toArray, List.getElem_cons_succ, List.getElem_cons_zero, List.setIfInBounds_toArray, List.set_cons_zero, List.set_cons_succ]
      refine wpAnyH_take (i := 8) (v := .agg #[.string dn, .string dk, .slice none 0 0, .int .i64 dq]) rfl (by kernel_rfl) (by kernel_rfl) (by kernel_rfl) (fun _ _ _ h => h) (Or.inl ⟨by kernel_rfl, ?ld⟩) hS ?_; case ld => (intro uu hu; clear hu; go_simp)
      try simp only [Act.put, List.getElem_toArray, List.getElem_cons_succ, List.getElem_cons_zero, List.setIfInBounds_toArray, List.set_cons_zero, List.set_cons_succ]
      refine wpAnyH_ready (rs := [10]) (by kernel_rfl) (by simp) ?_
      refine (AllReadyH.cons rfl (fun K hK => ?_) AllReadyH.nil)
      rw [if_pos (by kernel_rfl)]
      have R5 := hide (rowIs_setRow (cs' := [.string dn, .string dk, .slice none 0 0, .int .i64 dq]) HT.out)
      have hS2 := below_setRow hS hgl #[.string dn, .string dk, .slice none 0 0, .int .i64 dq]
      refine wp_store_row 88 (.tmp 3) (.tmp 14) rfl g #[.string dn, .string dk, .slice none 0 0, .int .i64 dq] rfl rfl 88 #[.string ⟨#[]⟩, .string ⟨#[]⟩, .slice none 0 0, .int .i64 0] HT.out (by kernel_rfl) rfl (by simp [Value.oneCell']) ?_
      refine hK.out _ _ hS2 (fun hS => ?_)
      clear hK K hS
      try simp only [Act.put, List.getElem_toArray, List.getElem_cons_succ, List.getElem_cons_zero, List.setIfInBounds_toArray, List.set_cons_zero, List.set_cons_succ]
      refine wpAnyH_done (by kernel_rfl) ?_ _
      go_wp2_with fail
      go_meet
      exact ⟨g, rfl, hgl, R5.out, hS2⟩
  obtain ⟨g, rfl, hgl, R5, hbc⟩ := hcut
  have R3 := R1.new hbc
  have R4 := R2.new hbc
  have HLC := hide (HL1.out.new hbc)
  have HLB : Hid (∀ w' : World, Below w.heap.size w w' → RdR strS w' (.slice a dl.length p) dl) := fun w' hb => HLW.out.new hb
  have HB2 := hide (bchain HB1.out hbc)
  have hgw := R5.lt
  have hcs := hbc.size
  clear hbc HB1 HL1 R1 R2 cN cK
  rename_i wc
  have HR5 := hide R5; have HR4 := hide R4
  have k2 := R3.cell (j := 2) rfl
  have kl := R3.lt
  clear R5 R4 R3
  go_upto_region 3 with fail
  clear k2 kl
  go_loopw [18] (fun i wr => ∃ (k : Nat) (ab : Option Addr) (pb : Nat), i = .int .i64 (k : Int) ∧ k ≤ dl.length ∧ Hid (RowIs wr g 88 [.string dn, .string dk, .slice ab k pb, .int .i64 dq]) ∧ Hid (RowIs wr (w.heap.size + 1) 88 [.string ⟨#[]⟩, .string ⟨#[]⟩, .slice none 0 0, .int .i64 0]) ∧ Hid (wr.ownsRow wc.heap.size 9 1 (.slice ab k pb) k ((dl.take k).map Value.string)) ∧ Hid (RdR strS wr (.slice a dl.length p) dl) ∧ Hid (Below w.heap.size w wr) ∧ wc.heap.size ≤ wr.heap.size) (fun i _ => dl.length - (intOf i).toNat)
  case atStart => exact ⟨0, none, 0, rfl, Nat.zero_le _, HR5, HR4, World.ownsRow_nil _ _ _ _, HLC, HB2, Nat.le_refl _⟩
  case round =>
    clear HR5 HR4 HLC HB2
    obtain ⟨k, ab, pb, rfl, hk, HR5, HR4, HO, HLC, HB, hsz⟩ := hrel
    by_cases hlt : k < dl.length
    · have hltI : (k : Int) < dl.length := by omega
      obtain ⟨b, o, hae, hbw, c0, hzs⟩ := strs_at HLC.out hlt
      subst hae
      obtain ⟨s, hs⟩ : ∃ s, dl[k] = s := ⟨_, rfl⟩
      rw [hs] at c0
      have hs60 : s.size ≤ 60 := by rw [← hs]; exact H3.out _ (List.getElem_mem hlt)
      have HTK : Hid ((dl.take (k + 1)).map Value.string = (dl.take k).map Value.string ++ [.string s]) := by show _ = _; rw [← hs, List.take_succ_eq_append_getElem hlt, List.map_append]; rfl
      have cS := fun w => clone s w (by omega)
      clear hs hzs
      go_upto_region 5 with fail
      clear c0 hbw
      have hD : Below wr.heap.size wr (World.drew wr) := (Below.refl _ _).drew
      replace HR5 := hide (HR5.out.new hD)
      replace HR4 := hide (HR4.out.new hD)
      replace HO := hide (owns_new HO.out hD)
      replace HLC := hide (HLC.out.new hD)
      replace HB := hide (bchain HB.out hD)
      have HSZ := hide (Nat.le_trans hsz hD.size)
      clear hD hsz
      refine wp_region_any (by kernel_rfl) ?_; change wpAny _ _ _ _ _ _ _ (World.drew _)
      generalize World.drew wr = w9 at *
      refine wpAny_take (i := 0) (v := ?_) rfl (by kernel_rfl) (by kernel_rfl) (by kernel_rfl) (fun _ _ _ h => h) (Or.inl ⟨by rfl, ?_⟩) ?_; rotate_left; focus (intro uu; go_simp; try with_reducible rfl)
      try simp only [Act.put, List.getElem_toArray, List.getElem_cons_succ, List.getElem_cons_zero, List.setIfInBounds_toArray, List.set_cons_zero, List.set_cons_succ]
      refine wpAny_take (i := 2) (v := ?_) rfl (by kernel_rfl) (by kernel_rfl) (by kernel_rfl) (fun _ _ _ h => h) (Or.inl ⟨by rfl, ?_⟩) ?_; rotate_left; focus (intro uu; go_simp; try with_reducible rfl)
      try simp only [Act.put, List.getElem_toArray, List.getElem_cons_succ, List.getElem_cons_zero, List.setIfInBounds_toArray, List.set_cons_zero, List.set_cons_succ]
      refine wpAny_ready (rs := [1, 3]) (by kernel_rfl) (by simp) ?_
      refine (AllReady.cons rfl (fun K hK => ?_) (AllReady.cons rfl (fun K hK => ?_) AllReady.nil))
      · skip
        try rw [if_pos (by kernel_rfl)]
        have z2 := HR5.out.cell (j := 2) rfl
        have z8 := HR5.out.lt
        go_simp
        refine hK _ _ ?_; clear hK K
        clear z2 z8
        try simp only [Act.put, List.getElem_toArray, List.getElem_cons_succ, List.getElem_cons_zero, List.setIfInBounds_toArray, List.set_cons_zero, List.set_cons_succ]
        refine wpAny_ready (rs := [3]) (by kernel_rfl) (by simp) ?_
        refine (AllReady.cons rfl (fun K hK => ?_) AllReady.nil)
        try rw [if_pos (by kernel_rfl)]
        go_simp
        refine (cS _).mono ?_; rintro e u2 ⟨rfl, hbu2⟩
        replace HR5 := hide (HR5.out.new hbu2)
        replace HR4 := hide (HR4.out.new hbu2)
        replace HO := hide (owns_new HO.out hbu2)
        replace HLC := hide (HLC.out.new hbu2)
        replace HB := hide (bchain HB.out hbu2)
        replace HSZ := hide (Nat.le_trans HSZ.out hbu2.size)
        refine hK _ _ ?_; clear hK K hbu2
        try simp only [Act.put, List.getElem_toArray, List.getElem_cons_succ, List.getElem_cons_zero, List.setIfInBounds_toArray, List.set_cons_zero, List.set_cons_succ]
        refine wpAny_ready (rs := [4]) (by kernel_rfl) (by simp) ?_
        refine (AllReady.cons rfl (fun K hK => ?_) AllReady.nil)
        try rw [if_pos (by kernel_rfl)]
        go_simp
        obtain ⟨u3, hu3⟩ : ∃ u, u2.alloc (.cells #[.string s] 9) = u := ⟨_, rfl⟩
        have hbu3 : Below u2.heap.size u2 u3 := by rw [← hu3]; exact (Below.refl _ _).alloc (Nat.le_refl _) _
        replace HR5 := hide (HR5.out.new hbu3)
        replace HR4 := hide (HR4.out.new hbu3)
        replace HO := hide (owns_new HO.out hbu3)
        replace HLC := hide (HLC.out.new hbu3)
        replace HB := hide (bchain HB.out hbu3)
        replace HSZ := hide (Nat.le_trans HSZ.out hbu3.size)
        have HRD : Hid (Reads u3 (.slice (some ⟨(u2).heap.size, 0, none⟩) 1 1) 1 1 [.string s]) := by show _; rw [← hu3]; exact reads_of_owns (owns_lit u2 9 1 1 #[.string s] rfl (by omega))
        rw [hu3]
        clear hu3 hbu3
        refine hK _ _ ?_; clear hK K
        try simp only [Act.put, List.getElem_toArray, List.getElem_cons_succ, List.getElem_cons_zero, List.setIfInBounds_toArray, List.set_cons_zero, List.set_cons_succ]
        refine wpAny_ready (rs := [5]) (by kernel_rfl) (by simp) ?_
        refine (AllReady.cons rfl (fun K hK => ?_) AllReady.nil)
        refine step_app _ (by rfl) _ _ 82 (by rfl) 9 (.string ⟨#[]⟩) 1 16 Tryz.underlying82 (by kernel_rfl) rfl (by decide) wc.heap.size _ k ((dl.take k).map Value.string) (by rfl) HO.out _ 1 [.string s] (by rfl) HRD.out (by intro y hy; simp at hy; subst hy; rfl) (by omega) (by decide) HSZ.out ?_
        intro ad8 cap8 u4 hown8 hg8 hat8
        have HNB : Hid (∀ q, (Value.slice ab k pb).ownBlock = some q → wc.heap.size ≤ q) := fun q hq => (HO.out.lt q hq).1
        replace HR5 := hide (HR5.out.kept (hg8.block g HR5.out.lt (fun e => by have := HNB.out g e.symm; omega)))
        replace HR4 := hide (HR4.out.kept (hg8.block _ HR4.out.lt (fun e => by have := HNB.out _ e.symm; omega)))
        replace HB := hide (HB.out.grown hg8 HB.out.size (fun q hq => by have := HNB.out q hq; omega))
        replace HLC := hide (HLB.out u4 HB.out)
        have HO8 : Hid ((u4).ownsRow wc.heap.size 9 1 (.slice ad8 (k + 1) cap8) (k + 1) ((dl.take (k + 1)).map Value.string)) := by rw [HTK.out]; exact hown8
        replace HSZ := hide (Nat.le_trans HSZ.out hg8.size)
        have HN8 : Hid (∀ q, (Value.slice ad8 (k + 1) cap8).ownBlock = some q → wc.heap.size ≤ q) := fun q hq => (hown8.lt q hq).1
        refine hK _ _ ?_
        clear hK K hown8 hg8 hat8 HRD HO HTK HNB
        try simp only [Act.put, List.getElem_toArray, List.getElem_cons_succ, List.getElem_cons_zero, List.setIfInBounds_toArray, List.set_cons_zero, List.set_cons_succ]
        refine wpAny_take (i := 6) (v := ?_) rfl (by kernel_rfl) (by kernel_rfl) (by kernel_rfl) (fun _ _ _ h => h) (Or.inl ⟨by rfl, ?_⟩) ?_; rotate_left; focus (intro uu; go_simp; try with_reducible rfl)
        try simp only [Act.put, List.getElem_toArray, List.getElem_cons_succ, List.getElem_cons_zero, List.setIfInBounds_toArray, List.set_cons_zero, List.set_cons_succ]
        refine wpAny_ready (rs := [7]) (by kernel_rfl) (by simp) ?_
        refine (AllReady.cons rfl (fun K hK => ?_) AllReady.nil)
        try rw [if_pos (by kernel_rfl)]
        have z2 := HR5.out.cell (j := 2) rfl
        have z9 := HR5.out.frozen 2
        have z8 := HR5.out.lt
        go_simp
        clear z2 z9 z8
        replace HR5 := hide (HR5.out.set 2 (.slice ad8 (k + 1) cap8))
        replace HR4 := hide (HR4.out.far ⟨g, 2, none⟩ (.slice ad8 (k + 1) cap8) (by show g ≠ _; omega))
        replace HO8 := hide (owns_apart HO8.out ⟨g, 2, none⟩ (.slice ad8 (k + 1) cap8) (fun e => by have := HN8.out _ e; simp at this; omega))
        replace HB := hide (HB.out.setCell (p := ⟨g, 2, none⟩) (show w.heap.size ≤ g by omega) (.slice ad8 (k + 1) cap8))
        replace HLC := hide (HLB.out _ HB.out)
        replace HSZ : Hid (wc.heap.size ≤ ((u4).setCell ⟨g, 2, none⟩ (.slice ad8 (k + 1) cap8)).heap.size) := by show _ ≤ _; have := HSZ.out; simp; omega
        refine hK _ _ ?_; clear hK K
        try simp only [Act.put, List.getElem_toArray, List.getElem_cons_succ, List.getElem_cons_zero, List.setIfInBounds_toArray, List.set_cons_zero, List.set_cons_succ]
        refine wpAny_done (by kernel_rfl) ?_ _
        go_wp2_with fail
        go_roundw
        case rel => exact ⟨k + 1, ad8, cap8, by go_num, by omega, HR5, HR4, HO8, HLC, HB, HSZ.out⟩
        case measure => simp [intOf]; omega
      · skip
        try rw [if_pos (by kernel_rfl)]
        go_simp
        refine (cS _).mono ?_; rintro e u6 ⟨rfl, hbu6⟩
        replace HR5 := hide (HR5.out.new hbu6)
        replace HR4 := hide (HR4.out.new hbu6)
        replace HO := hide (owns_new HO.out hbu6)
        replace HLC := hide (HLC.out.new hbu6)
        replace HB := hide (bchain HB.out hbu6)
        replace HSZ := hide (Nat.le_trans HSZ.out hbu6.size)
        refine hK _ _ ?_; clear hK K hbu6
        try simp only [Act.put, List.getElem_toArray, List.getElem_cons_succ, List.getElem_cons_zero, List.setIfInBounds_toArray, List.set_cons_zero, List.set_cons_succ]
        refine wpAny_ready (rs := [1, 4]) (by kernel_rfl) (by simp) ?_
        refine (AllReady.cons rfl (fun K hK => ?_) (AllReady.cons rfl (fun K hK => ?_) AllReady.nil))
        · skip
          try rw [if_pos (by kernel_rfl)]
          have z2 := HR5.out.cell (j := 2) rfl
          have z8 := HR5.out.lt
          go_simp
          refine hK _ _ ?_; clear hK K
          clear z2 z8
          try simp only [Act.put, List.getElem_toArray, List.getElem_cons_succ, List.getElem_cons_zero, List.setIfInBounds_toArray, List.set_cons_zero, List.set_cons_succ]
          refine wpAny_ready (rs := [4]) (by kernel_rfl) (by simp) ?_
          refine (AllReady.cons rfl (fun K hK => ?_) AllReady.nil)
          try rw [if_pos (by kernel_rfl)]
          go_simp
          obtain ⟨u8, hu8⟩ : ∃ u, u6.alloc (.cells #[.string s] 9) = u := ⟨_, rfl⟩
          have hbu8 : Below u6.heap.size u6 u8 := by rw [← hu8]; exact (Below.refl _ _).alloc (Nat.le_refl _) _
          replace HR5 := hide (HR5.out.new hbu8)
          replace HR4 := hide (HR4.out.new hbu8)
          replace HO := hide (owns_new HO.out hbu8)
          replace HLC := hide (HLC.out.new hbu8)
          replace HB := hide (bchain HB.out hbu8)
          replace HSZ := hide (Nat.le_trans HSZ.out hbu8.size)
          have HRD : Hid (Reads u8 (.slice (some ⟨(u6).heap.size, 0, none⟩) 1 1) 1 1 [.string s]) := by show _; rw [← hu8]; exact reads_of_owns (owns_lit u6 9 1 1 #[.string s] rfl (by omega))
          rw [hu8]
          clear hu8 hbu8
          refine hK _ _ ?_; clear hK K
          try simp only [Act.put, List.getElem_toArray, List.getElem_cons_succ, List.getElem_cons_zero, List.setIfInBounds_toArray, List.set_cons_zero, List.set_cons_succ]
          refine wpAny_ready (rs := [5]) (by kernel_rfl) (by simp) ?_
          refine (AllReady.cons rfl (fun K hK => ?_) AllReady.nil)
          refine step_app _ (by rfl) _ _ 82 (by rfl) 9 (.string ⟨#[]⟩) 1 16 Tryz.underlying82 (by kernel_rfl) rfl (by decide) wc.heap.size _ k ((dl.take k).map Value.string) (by rfl) HO.out _ 1 [.string s] (by rfl) HRD.out (by intro y hy; simp at hy; subst hy; rfl) (by omega) (by decide) HSZ.out ?_
          intro ad8 cap8 u9 hown8 hg8 hat8
          have HNB : Hid (∀ q, (Value.slice ab k pb).ownBlock = some q → wc.heap.size ≤ q) := fun q hq => (HO.out.lt q hq).1
          replace HR5 := hide (HR5.out.kept (hg8.block g HR5.out.lt (fun e => by have := HNB.out g e.symm; omega)))
          replace HR4 := hide (HR4.out.kept (hg8.block _ HR4.out.lt (fun e => by have := HNB.out _ e.symm; omega)))
          replace HB := hide (HB.out.grown hg8 HB.out.size (fun q hq => by have := HNB.out q hq; omega))
          replace HLC := hide (HLB.out u9 HB.out)
          have HO8 : Hid ((u9).ownsRow wc.heap.size 9 1 (.slice ad8 (k + 1) cap8) (k + 1) ((dl.take (k + 1)).map Value.string)) := by rw [HTK.out]; exact hown8
          replace HSZ := hide (Nat.le_trans HSZ.out hg8.size)
          have HN8 : Hid (∀ q, (Value.slice ad8 (k + 1) cap8).ownBlock = some q → wc.heap.size ≤ q) := fun q hq => (hown8.lt q hq).1
          refine hK _ _ ?_
          clear hK K hown8 hg8 hat8 HRD HO HTK HNB
          try simp only [Act.put, List.getElem_toArray, List.getElem_cons_succ, List.getElem_cons_zero, List.setIfInBounds_toArray, List.set_cons_zero, List.set_cons_succ]
          refine wpAny_take (i := 6) (v := ?_) rfl (by kernel_rfl) (by kernel_rfl) (by kernel_rfl) (fun _ _ _ h => h) (Or.inl ⟨by rfl, ?_⟩) ?_; rotate_left; focus (intro uu; go_simp; try with_reducible rfl)
          try simp only [Act.put, List.getElem_toArray, List.getElem_cons_succ, List.getElem_cons_zero, List.setIfInBounds_toArray, List.set_cons_zero, List.set_cons_succ]
          refine wpAny_ready (rs := [7]) (by kernel_rfl) (by simp) ?_
          refine (AllReady.cons rfl (fun K hK => ?_) AllReady.nil)
          try rw [if_pos (by kernel_rfl)]
          have z2 := HR5.out.cell (j := 2) rfl
          have z9 := HR5.out.frozen 2
          have z8 := HR5.out.lt
          go_simp
          clear z2 z9 z8
          replace HR5 := hide (HR5.out.set 2 (.slice ad8 (k + 1) cap8))
          replace HR4 := hide (HR4.out.far ⟨g, 2, none⟩ (.slice ad8 (k + 1) cap8) (by show g ≠ _; omega))
          replace HO8 := hide (owns_apart HO8.out ⟨g, 2, none⟩ (.slice ad8 (k + 1) cap8) (fun e => by have := HN8.out _ e; simp at this; omega))
          replace HB := hide (HB.out.setCell (p := ⟨g, 2, none⟩) (show w.heap.size ≤ g by omega) (.slice ad8 (k + 1) cap8))
          replace HLC := hide (HLB.out _ HB.out)
          replace HSZ : Hid (wc.heap.size ≤ ((u9).setCell ⟨g, 2, none⟩ (.slice ad8 (k + 1) cap8)).heap.size) := by show _ ≤ _; have := HSZ.out; simp; omega
          refine hK _ _ ?_; clear hK K
          try simp only [Act.put, List.getElem_toArray, List.getElem_cons_succ, List.getElem_cons_zero, List.setIfInBounds_toArray, List.set_cons_zero, List.set_cons_succ]
          refine wpAny_done (by kernel_rfl) ?_ _
          go_wp2_with fail
          go_roundw
          case rel => exact ⟨k + 1, ad8, cap8, by go_num, by omega, HR5, HR4, HO8, HLC, HB, HSZ.out⟩
          case measure => simp [intOf]; omega
        · skip
          try rw [if_pos (by kernel_rfl)]
          go_simp
          obtain ⟨u11, hu11⟩ : ∃ u, u6.alloc (.cells #[.string s] 9) = u := ⟨_, rfl⟩
          have hbu11 : Below u6.heap.size u6 u11 := by rw [← hu11]; exact (Below.refl _ _).alloc (Nat.le_refl _) _
          replace HR5 := hide (HR5.out.new hbu11)
          replace HR4 := hide (HR4.out.new hbu11)
          replace HO := hide (owns_new HO.out hbu11)
          replace HLC := hide (HLC.out.new hbu11)
          replace HB := hide (bchain HB.out hbu11)
          replace HSZ := hide (Nat.le_trans HSZ.out hbu11.size)
          have HRD : Hid (Reads u11 (.slice (some ⟨(u6).heap.size, 0, none⟩) 1 1) 1 1 [.string s]) := by show _; rw [← hu11]; exact reads_of_owns (owns_lit u6 9 1 1 #[.string s] rfl (by omega))
          rw [hu11]
          clear hu11 hbu11
          refine hK _ _ ?_; clear hK K
          try simp only [Act.put, List.getElem_toArray, List.getElem_cons_succ, List.getElem_cons_zero, List.setIfInBounds_toArray, List.set_cons_zero, List.set_cons_succ]
          refine wpAny_ready (rs := [1]) (by kernel_rfl) (by simp) ?_
          refine (AllReady.cons rfl (fun K hK => ?_) AllReady.nil)
          try rw [if_pos (by kernel_rfl)]
          have z2 := HR5.out.cell (j := 2) rfl
          have z8 := HR5.out.lt
          go_simp
          refine hK _ _ ?_; clear hK K
          clear z2 z8
          try simp only [Act.put, List.getElem_toArray, List.getElem_cons_succ, List.getElem_cons_zero, List.setIfInBounds_toArray, List.set_cons_zero, List.set_cons_succ]
          refine wpAny_ready (rs := [5]) (by kernel_rfl) (by simp) ?_
          refine (AllReady.cons rfl (fun K hK => ?_) AllReady.nil)
          refine step_app _ (by rfl) _ _ 82 (by rfl) 9 (.string ⟨#[]⟩) 1 16 Tryz.underlying82 (by kernel_rfl) rfl (by decide) wc.heap.size _ k ((dl.take k).map Value.string) (by rfl) HO.out _ 1 [.string s] (by rfl) HRD.out (by intro y hy; simp at hy; subst hy; rfl) (by omega) (by decide) HSZ.out ?_
          intro ad8 cap8 u13 hown8 hg8 hat8
          have HNB : Hid (∀ q, (Value.slice ab k pb).ownBlock = some q → wc.heap.size ≤ q) := fun q hq => (HO.out.lt q hq).1
          replace HR5 := hide (HR5.out.kept (hg8.block g HR5.out.lt (fun e => by have := HNB.out g e.symm; omega)))
          replace HR4 := hide (HR4.out.kept (hg8.block _ HR4.out.lt (fun e => by have := HNB.out _ e.symm; omega)))
          replace HB := hide (HB.out.grown hg8 HB.out.size (fun q hq => by have := HNB.out q hq; omega))
          replace HLC := hide (HLB.out u13 HB.out)
          have HO8 : Hid ((u13).ownsRow wc.heap.size 9 1 (.slice ad8 (k + 1) cap8) (k + 1) ((dl.take (k + 1)).map Value.string)) := by rw [HTK.out]; exact hown8
          replace HSZ := hide (Nat.le_trans HSZ.out hg8.size)
          have HN8 : Hid (∀ q, (Value.slice ad8 (k + 1) cap8).ownBlock = some q → wc.heap.size ≤ q) := fun q hq => (hown8.lt q hq).1
          refine hK _ _ ?_
          clear hK K hown8 hg8 hat8 HRD HO HTK HNB
          try simp only [Act.put, List.getElem_toArray, List.getElem_cons_succ, List.getElem_cons_zero, List.setIfInBounds_toArray, List.set_cons_zero, List.set_cons_succ]
          refine wpAny_take (i := 6) (v := ?_) rfl (by kernel_rfl) (by kernel_rfl) (by kernel_rfl) (fun _ _ _ h => h) (Or.inl ⟨by rfl, ?_⟩) ?_; rotate_left; focus (intro uu; go_simp; try with_reducible rfl)
          try simp only [Act.put, List.getElem_toArray, List.getElem_cons_succ, List.getElem_cons_zero, List.setIfInBounds_toArray, List.set_cons_zero, List.set_cons_succ]
          refine wpAny_ready (rs := [7]) (by kernel_rfl) (by simp) ?_
          refine (AllReady.cons rfl (fun K hK => ?_) AllReady.nil)
          try rw [if_pos (by kernel_rfl)]
          have z2 := HR5.out.cell (j := 2) rfl
          have z9 := HR5.out.frozen 2
          have z8 := HR5.out.lt
          go_simp
          clear z2 z9 z8
          replace HR5 := hide (HR5.out.set 2 (.slice ad8 (k + 1) cap8))
          replace HR4 := hide (HR4.out.far ⟨g, 2, none⟩ (.slice ad8 (k + 1) cap8) (by show g ≠ _; omega))
          replace HO8 := hide (owns_apart HO8.out ⟨g, 2, none⟩ (.slice ad8 (k + 1) cap8) (fun e => by have := HN8.out _ e; simp at this; omega))
          replace HB := hide (HB.out.setCell (p := ⟨g, 2, none⟩) (show w.heap.size ≤ g by omega) (.slice ad8 (k + 1) cap8))
          replace HLC := hide (HLB.out _ HB.out)
          replace HSZ : Hid (wc.heap.size ≤ ((u13).setCell ⟨g, 2, none⟩ (.slice ad8 (k + 1) cap8)).heap.size) := by show _ ≤ _; have := HSZ.out; simp; omega
          refine hK _ _ ?_; clear hK K
          try simp only [Act.put, List.getElem_toArray, List.getElem_cons_succ, List.getElem_cons_zero, List.setIfInBounds_toArray, List.set_cons_zero, List.set_cons_succ]
          refine wpAny_done (by kernel_rfl) ?_ _
          go_wp2_with fail
          go_roundw
          case rel => exact ⟨k + 1, ad8, cap8, by go_num, by omega, HR5, HR4, HO8, HLC, HB, HSZ.out⟩
          case measure => simp [intOf]; omega
    · have hltI : ¬ (k : Int) < dl.length := by omega
      obtain rfl : k = dl.length := by omega
      rw [List.take_length] at HO
      have x0 := RowIs.cell (j := 0) HR5.out rfl; have x1 := RowIs.cell (j := 1) HR5.out rfl; have x2 := RowIs.cell (j := 2) HR5.out rfl; have x3 := RowIs.cell (j := 3) HR5.out rfl; have x9 := fun j => RowIs.frozen HR5.out j; have x8 := HR5.out.lt
      have y0 := RowIs.cell (j := 0) HR4.out rfl; have y1 := RowIs.cell (j := 1) HR4.out rfl; have y2 := RowIs.cell (j := 2) HR4.out rfl; have y3 := RowIs.cell (j := 3) HR4.out rfl; have y9 := fun j => RowIs.frozen HR4.out j; have y8 := HR4.out.lt
      go_wp2_with fail
      refine bodyPost_ret (v := .agg #[.string dn, .string dk, .slice ab dl.length pb, .int .i64 dq]) (by simp [results, Tryz.results204, go_sem, *]) rfl ?_
      refine ⟨_, _, rfl, ?_, by repeat' (first | (with_reducible exact HB.out) | (with_reducible refine Below.setCell ?_ ?_ _) | (with_reducible refine Below.alloc ?_ ?_ _) | (with_reducible refine Below.drew ?_) | (with_reducible refine bo_drewN _ ?_) | omega | (simp; done) | (simp; omega))⟩
      have hoz := strs_ow HO.out (fun x hx => by have := H3.out x hx; omega)
      refine (OwX.wide (lo := wc.heap.size) (hi := wr.heap.size) (lo' := w.heap.size) (hi' := wr.heap.size) ?_ (by omega) (Nat.le_refl _)).top
      (repeat' (first | (with_reducible exact hoz) | (with_reducible refine OwX.far ?_ _ _ ?_) | (simp; done) | (simp; omega)))
end Go.Proofs.YtkhclhnejnpkeaaGreat
