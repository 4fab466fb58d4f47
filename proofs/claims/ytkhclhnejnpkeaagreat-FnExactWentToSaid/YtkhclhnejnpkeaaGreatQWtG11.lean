/- Several small texts of one level, one behind the other. -/
import Derived.Test.YtkhclhnejnpkeaaGreatQWtG10
import Derived.Test.YtkhclhnejnpkeaaGreatQWtG2
import Derived.Test.YtkhclhnejnpkeaaGreatQWtG9
import Derived.Test.YtkhclhnejnpkeaaGreatQWtG4
import Derived.Deep.DeepCutAuto
import Derived.OpenShut
import Derived.ChangeOld
/- The program's registry: whether entries rise, where one is, how many live, whether it is full, whether it is right, a copy. -/
namespace Go.Proofs.YtkhclhnejnpkeaaGreat
open Go.RowKit
set_option maxRecDepth 100000
set_option linter.unusedSimpArgs false
set_option linter.unusedVariables false
set_option maxHeartbeats 4000000 in
theorem implRises (L : List EntryD) (v : Value) (w : World) (hr : RdR entryS w v L) (hL : L.length ≤ 60) :
    Calls Tryz.prog 145 #[v, .func (.func 146) #[] #[]] w fun x w' => x = .returned (.bool (risB L)) ∧ Below w.heap.size w w' := by
  obtain ⟨ad, cap, rfl, h1, h2⟩ := hr.form
  have HR := hide hr
  clear hr
  obtain ⟨A, hA⟩ : ∃ A, risB L = A := ⟨_, rfl⟩
  rw [hA]
  have HA := hide hA
  clear hA
  go_enter Tryz.func145, Tryz.ntmps145
  go_wp2_with fail
  go_loopw [5] (fun i wr => ∃ (k : Nat), i = .int .i64 (k + 1 : Nat) ∧ k ≤ 60 ∧ Hid (∀ j (hj : j + 1 < L.length), j < k → (L[j]'(by omega)).id < L[j + 1].id) ∧ Hid (Below w.heap.size w wr)) (fun i _ => L.length + 1 - (intOf i).toNat)
  case atStart => exact ⟨0, rfl, by omega, fun j _ hj => absurd hj (Nat.not_lt_zero _), Below.refl _ _⟩
  case round =>
    obtain ⟨k, rfl, hk, HN, HB⟩ := hrel
    by_cases hlt : k + 1 < L.length
    · obtain ⟨b, o, cs, rfl, hbw, rfl, hc⟩ := (HR.out.new HB.out).at k (by omega)
      obtain ⟨b', o', cs', hbo, _, rfl, hc'⟩ := (HR.out.new HB.out).at (k + 1) hlt
      simp only [Option.some.injEq, Addr.mk.injEq] at hbo
      obtain ⟨rfl, rfl, -⟩ := hbo
      have c0 : wr.cell? ⟨b, o + k * 2, none⟩ = some (.int .i64 L[k].id) := hc 0 _ rfl
      have c1 : wr.cell? ⟨b, o + k * 2 + 1, none⟩ = some (.int .i64 L[k].state) := hc 1 _ rfl
      have c2 : wr.cell? ⟨b, o + (k + 1) * 2, none⟩ = some (.int .i64 L[k + 1].id) := hc' 0 _ rfl
      have c3 : wr.cell? ⟨b, o + (k + 1) * 2 + 1, none⟩ = some (.int .i64 L[k + 1].state) := hc' 1 _ rfl
      clear hc hc'
      obtain ⟨e, he⟩ : ∃ e, L[k] = e := ⟨_, rfl⟩
      obtain ⟨f, hf⟩ : ∃ f, L[k + 1] = f := ⟨_, rfl⟩
      rw [he] at c0 c1
      rw [hf] at c2 c3
      have q0 : ∀ y : Later wr, y.w.cell? ⟨b, o + k * 2, none⟩ = some (.int .i64 e.id) := fun y => (y.b.cell (p := ⟨b, o + k * 2, none⟩) hbw).trans c0
      have q1 : ∀ y : Later wr, y.w.cell? ⟨b, o + k * 2 + 1, none⟩ = some (.int .i64 e.state) := fun y => (y.b.cell (p := ⟨b, o + k * 2 + 1, none⟩) hbw).trans c1
      have q2 : ∀ y : Later wr, y.w.cell? ⟨b, o + (k + 1) * 2, none⟩ = some (.int .i64 f.id) := fun y => (y.b.cell (p := ⟨b, o + (k + 1) * 2, none⟩) hbw).trans c2
      have q3 : ∀ y : Later wr, y.w.cell? ⟨b, o + (k + 1) * 2 + 1, none⟩ = some (.int .i64 f.state) := fun y => (y.b.cell (p := ⟨b, o + (k + 1) * 2 + 1, none⟩) hbw).trans c3
      have hbl := fun w => implBelow e f w
      clear c0 c1 c2 c3
      cases hq : decide (e.id < f.id)
      · have HF : Hid (A = false) := by
          show A = false
          rw [← HA.out]
          cases hz : risB L
          · rfl
          · have := (risB_iff L).1 hz k hlt
            rw [he, hf] at this
            exact absurd this (of_decide_eq_false hq)
        rw [hq] at hbl
        clear hq he hf
        go_upto_region 4 with fail
        have hne : Nonempty (Later wr) := ⟨⟨wr, Below.refl _ _⟩⟩; refine region_later (by kernel_rfl) (by kernel_rfl) ?_
        repeat (go_big_quiet_step (fail))
        go_big_quiet_want; go_big_quiet_op; refine ⟨.bool false, fun y => later_calls (x := y) (hbl y.w), ?_⟩; go_big_quiet_on
        repeat (go_big_quiet_step (fail))
        refine wpQuiet_nil ?_; intro _ hw'; obtain ⟨y, hw''⟩ := hw'; subst hw''; have hby := y.b
        go_wp2_with fail
        go_ret
        exact ⟨by rw [HF.out]; rfl, bchain HB.out hby⟩
      · have HN2 : Hid (∀ j (hj : j + 1 < L.length), j < k + 1 → (L[j]'(by omega)).id < L[j + 1].id) := fun j hj hjk => by
          by_cases ej : j = k
          · subst ej; rw [he, hf]; exact of_decide_eq_true hq
          · exact HN.out j hj (by omega)
        rw [hq] at hbl
        clear hq he hf
        go_upto_region 4 with fail
        have hne : Nonempty (Later wr) := ⟨⟨wr, Below.refl _ _⟩⟩; refine region_later (by kernel_rfl) (by kernel_rfl) ?_
        repeat (go_big_quiet_step (fail))
        go_big_quiet_want; go_big_quiet_op; refine ⟨.bool true, fun y => later_calls (x := y) (hbl y.w), ?_⟩; go_big_quiet_on
        repeat (go_big_quiet_step (fail))
        refine wpQuiet_nil ?_; intro _ hw'; obtain ⟨y, hw''⟩ := hw'; subst hw''; have hby := y.b
        have HB2 := hide (bchain HB.out hby)
        go_wp2_with fail
        go_roundw
        case rel => exact ⟨k + 1, by go_num, by omega, HN2, HB2⟩
        case measure => simp [intOf]; omega
    · have HF : Hid (A = true) := by
        show A = true
        rw [← HA.out]
        exact (risB_iff L).2 fun i hi => HN.out i hi (by omega)
      have hge : ¬ ((k + 1 : Nat) : Int) < (L.length : Int) := by omega
      go_wp2_with fail
      go_ret
      exact ⟨by rw [HF.out]; rfl, HB.out⟩
theorem keep_live (L : List EntryD) : ((keep [.inl false] L).length : Int) = liveL L := by
  have := (live_filter L).2
  rw [← this]
  unfold keep
  congr 2
  simp [wnP, liB]
set_option maxHeartbeats 1000000 in
theorem implLiveL (d : RegistryD) (v : Value) (w : World) (hr : RdR entryS w v d.es) (hL : d.es.length ≤ 60) : Calls Tryz.prog 147 #[.agg #[.int .i64 d.lim, .int .i64 d.top, v]] w fun x w' => x = .returned (.int .i64 (liveL d.es)) ∧ Below w.heap.size w w' := by
  obtain ⟨ad, cap, rfl, h1, h2⟩ := hr.form
  have HR := hide hr
  clear hr
  obtain ⟨A, hA⟩ : ∃ A, liveL d.es = A := ⟨_, rfl⟩
  have HKL : Hid (((keep [.inl false] d.es).length : Int) = A) := by rw [← hA]; exact keep_live d.es
  rw [hA]
  clear hA
  go_enter Tryz.func147, Tryz.ntmps147
  go_wp2_with fail
  refine (implList d _ _ (HR.out.new (by repeat' (first | (with_reducible exact Below.refl _ _) | (with_reducible refine Below.drew ?_) | (with_reducible refine bo_drewN _ ?_) | (with_reducible refine bo_alloc ?_ _) | (refine bchain ?_ (by with_reducible assumption)) | (with_reducible refine Below.setCell ?_ ?_ _) | go_size)))).mono ?_; rintro z w1 ⟨rfl, hb1⟩
  have HB := hide (bchain (bo_alloc (Below.refl _ _) _) hb1)
  clear hb1
  go_wp2_with fail
  have hbF : Below w1.heap.size w1 (w1.alloc (.cells #[.func (.func 162) #[] #[]] 179)) := (Below.refl _ _).alloc (Nat.le_refl _) _
  have hF : Reads (w1.alloc (.cells #[.func (.func 162) #[] #[]] 179)) (.slice (some ⟨w1.heap.size, 0, none⟩) 1 1) 1 1 (([.inl false] : List Wn).map wnV) := reads_of_owns (owns_lit w1 179 1 1 #[.func (.func 162) #[] #[]] rfl (by omega))
  replace HB := hide (bchain HB.out hbF)
  refine (implOnly d.es [.inl false] _ (some ⟨w1.heap.size, 0, none⟩) 1 _ (HR.out.new HB.out) hF hL (by decide)).mono ?_
  rintro z w2 ⟨v2, rfl, ho2, hb2⟩
  obtain ⟨a2, p2, rfl, _⟩ := owns_form ho2
  replace HB := hide (bchain HB.out hb2)
  have hkl := keep_len [.inl false] d.es
  clear hF hbF hb2 ho2
  go_wp2_with fail
  go_ret
  exact ⟨by rw [← HKL.out]; rfl, HB.out⟩
theorem keep_all (L : List EntryD) (l t : Int) (a : Option Addr) (n c : Nat) : (keep [.inl true, .inr (l, t, a, n, c)] L).length = L.length ↔ L.all (entOk t) = true := by
  unfold keep
  rw [List.length_filter_eq_length_iff, List.all_eq_true]
  refine forall_congr' fun e => forall_congr' fun _ => ?_
  have : (([.inl true, .inr (l, t, a, n, c)] : List Wn).all fun x => wnP x e) = entOk t e := by
    simp only [List.all_cons, List.all_nil, wnP, Bool.and_true, rtB, entOk, inB]
    cases idB e.id <;> cases decide (e.id ≤ t) <;> cases decide (1 ≤ e.state ∧ e.state ≤ 4) <;> rfl
  rw [this]
set_option maxHeartbeats 4000000 in
theorem implRightR (d : RegistryD) (v : Value) (w : World) (hr : RdR entryS w v d.es) : Calls Tryz.prog 127 #[.agg #[.int .i64 d.lim, .int .i64 d.top, v]] w fun x w' => x = .returned (.bool (okRg d)) ∧ Below w.heap.size w w' := by
  obtain ⟨ad, cap, rfl, h1, h2⟩ := hr.form
  have HR := hide hr
  clear hr
  obtain ⟨A, hA⟩ : ∃ A, okRg d = A := ⟨_, rfl⟩
  rw [hA]
  have HA : Hid (A = (inB d.lim 0 20 && decide (d.top = 0 ∨ idB d.top = true) && decide (d.es.length ≤ 60) && d.es.all (entOk d.top) && risB d.es && decide (liveL d.es ≤ d.lim))) := hA.symm
  clear hA
  cases hT : decide (d.top = 0 ∨ idB d.top = true)
  · have hT' := of_decide_eq_false hT
    have HF : Hid (A = false) := by show A = false; rw [HA.out, hT]; cases inB d.lim 0 20 <;> rfl
    have ht0 : (d.top == 0) = false := by simpa using fun c => hT' (.inl c)
    have ht1 : idB d.top = false := by cases hq : idB d.top <;> simp_all
    clear hT hT'
    go_enter Tryz.func127, Tryz.ntmps127
    go_wp2_with fail
    refine (implId d.top _).mono ?_; rw [ht1]; rintro e w1 ⟨rfl, hsame⟩; obtain rfl := hsame.symm; clear hsame
    go_wp2_with fail
    refine (implWithin _ _ _ _).mono ?_
    cases hlim : inB d.lim 0 20
    · rintro e w1 ⟨rfl, hsame⟩; obtain rfl := hsame.symm; clear hsame
      go_wp2_with fail
      go_ret
      exact ⟨by rw [HF.out]; rfl, (by repeat' (first | (with_reducible exact Below.refl _ _) | (with_reducible refine Below.drew ?_) | (with_reducible refine bo_drewN _ ?_) | (with_reducible refine bo_alloc ?_ _) | (refine bchain ?_ (by with_reducible assumption)) | (with_reducible refine Below.setCell ?_ ?_ _) | go_size))⟩
    · rintro e w1 ⟨rfl, hsame⟩; obtain rfl := hsame.symm; clear hsame
      go_wp2_with fail
      go_ret
      exact ⟨by rw [HF.out]; rfl, (by repeat' (first | (with_reducible exact Below.refl _ _) | (with_reducible refine Below.drew ?_) | (with_reducible refine bo_drewN _ ?_) | (with_reducible refine bo_alloc ?_ _) | (refine bchain ?_ (by with_reducible assumption)) | (with_reducible refine Below.setCell ?_ ?_ _) | go_size))⟩
  have two : (d.top = 0) ∨ ((d.top == 0) = false ∧ idB d.top = true) := by
    by_cases h : d.top = 0
    · exact .inl h
    · exact .inr ⟨by simpa using h, (of_decide_eq_true hT).resolve_left h⟩
  have hid := fun w => implId d.top w
  have hlm := fun w => implWithin d.lim 0 20 w
  cases hlim : inB d.lim 0 20
  · rw [hlim] at hlm
    have HF : Hid (A = false) := by show A = false; rw [HA.out, hlim]; rfl
    clear hT
    rcases two with ht0 | ⟨ht0, ht1⟩
    · rw [ht0] at *
      go_enter Tryz.func127, Tryz.ntmps127
      go_wp2_with fail
      refine (hlm _).mono ?_; rintro e w1 ⟨rfl, hsame⟩; obtain rfl := hsame.symm; clear hsame
      go_wp2_with fail
      go_ret
      exact ⟨by rw [HF.out]; rfl, (by repeat' (first | (with_reducible exact Below.refl _ _) | (with_reducible refine Below.drew ?_) | (with_reducible refine bo_drewN _ ?_) | (with_reducible refine bo_alloc ?_ _) | (refine bchain ?_ (by with_reducible assumption)) | (with_reducible refine Below.setCell ?_ ?_ _) | go_size))⟩
    · rw [ht1] at hid
      go_enter Tryz.func127, Tryz.ntmps127
      go_wp2_with fail
      refine (hid _).mono ?_; rintro e w1 ⟨rfl, hsame⟩; obtain rfl := hsame.symm; clear hsame
      go_wp2_with fail
      refine (hlm _).mono ?_; rintro e w1 ⟨rfl, hsame⟩; obtain rfl := hsame.symm; clear hsame
      go_wp2_with fail
      go_ret
      exact ⟨by rw [HF.out]; rfl, (by repeat' (first | (with_reducible exact Below.refl _ _) | (with_reducible refine Below.drew ?_) | (with_reducible refine bo_drewN _ ?_) | (with_reducible refine bo_alloc ?_ _) | (refine bchain ?_ (by with_reducible assumption)) | (with_reducible refine Below.setCell ?_ ?_ _) | go_size))⟩
  rw [hlim] at hlm
  by_cases h60 : (60 : Int) < d.es.length
  · have HF : Hid (A = false) := by show A = false; rw [HA.out, hlim, hT, show decide (d.es.length ≤ 60) = false from decide_eq_false (by omega)]; rfl
    clear hT
    rcases two with ht0 | ⟨ht0, ht1⟩
    · rw [ht0] at *
      go_enter Tryz.func127, Tryz.ntmps127
      go_wp2_with fail
      refine (hlm _).mono ?_; rintro e w1 ⟨rfl, hsame⟩; obtain rfl := hsame.symm; clear hsame
      go_wp2_with fail
      go_ret
      exact ⟨by rw [HF.out]; rfl, (by repeat' (first | (with_reducible exact Below.refl _ _) | (with_reducible refine Below.drew ?_) | (with_reducible refine bo_drewN _ ?_) | (with_reducible refine bo_alloc ?_ _) | (refine bchain ?_ (by with_reducible assumption)) | (with_reducible refine Below.setCell ?_ ?_ _) | go_size))⟩
    · rw [ht1] at hid
      go_enter Tryz.func127, Tryz.ntmps127
      go_wp2_with fail
      refine (hid _).mono ?_; rintro e w1 ⟨rfl, hsame⟩; obtain rfl := hsame.symm; clear hsame
      go_wp2_with fail
      refine (hlm _).mono ?_; rintro e w1 ⟨rfl, hsame⟩; obtain rfl := hsame.symm; clear hsame
      go_wp2_with fail
      go_ret
      exact ⟨by rw [HF.out]; rfl, (by repeat' (first | (with_reducible exact Below.refl _ _) | (with_reducible refine Below.drew ?_) | (with_reducible refine bo_drewN _ ?_) | (with_reducible refine bo_alloc ?_ _) | (refine bchain ?_ (by with_reducible assumption)) | (with_reducible refine Below.setCell ?_ ?_ _) | go_size))⟩
  have hL : d.es.length ≤ 60 := by omega
  have HA2 : Hid (A = (d.es.all (entOk d.top) && risB d.es && decide (liveL d.es ≤ d.lim))) := by show A = _; rw [HA.out, hlim, hT, show decide (d.es.length ≤ 60) = true from decide_eq_true hL]; simp only [Bool.true_and]
  clear hT HA hlim
  have hls := implList d (.slice ad d.es.length cap)
  have hkp := keep_all d.es d.lim d.top ad d.es.length cap
  have honly := implOnly d.es [.inl true, .inr (d.lim, d.top, ad, d.es.length, cap)] (.slice ad d.es.length cap)
  have hris := implRises d.es (.slice ad d.es.length cap)
  have hlv := fun w h => implLiveL d (.slice ad d.es.length cap) w h hL
  obtain ⟨q, hq⟩ : ∃ q, liveL d.es = q := ⟨_, rfl⟩
  rw [hq] at hlv HA2
  clear hq
  obtain ⟨M, hM⟩ : ∃ M, keep [.inl true, .inr (d.lim, d.top, ad, d.es.length, cap)] d.es = M := ⟨_, rfl⟩
  rw [hM] at hkp honly
  have hml : M.length ≤ d.es.length := by rw [← hM]; exact keep_len _ _
  have HKP := hide hkp
  clear hM hkp
  rcases two with ht0 | ⟨ht0, ht1⟩
  · have HT0 := hide ht0
    have ht2 : (d.top == 0) = true := by simpa using ht0
    clear ht0
    go_enter Tryz.func127, Tryz.ntmps127
    go_upto_region 2 with fail
    generalize hV : w.alloc (.cells #[.int .i64 d.lim, .int .i64 d.top, .slice ad d.es.length cap] 57) = V
    have hbV : Below w.heap.size w V := by rw [← hV]; exact (Below.refl _ _).alloc (Nat.le_refl _) _
    have HX : Hid (RowIs V w.heap.size 57 [.int .i64 d.lim, .int .i64 d.top, .slice ad d.es.length cap]) := by show RowIs _ _ _ _; rw [← hV]; exact rowIs_new w 57 [.int .i64 d.lim, .int .i64 d.top, .slice ad d.es.length cap]
    clear hV
    have HB := hide hbV
    clear hbV
    have x0 := HX.out.cell (j := 0) rfl
    have x1 := HX.out.cell (j := 1) rfl
    have x2 := HX.out.cell (j := 2) rfl
    have hlX := HX.out.lt
    go_wp2_with fail
    refine (hlm _).mono ?_; rintro e w1 ⟨rfl, hsame⟩; obtain rfl := hsame.symm; clear hsame
    go_wp2_with fail
    refine (hls _ (HR.out.new HB.out)).mono ?_; rintro z w2 ⟨rfl, hb2⟩
    replace HX := hide (HX.out.new hb2)
    replace HB := hide (bchain HB.out hb2)
    clear hb2 x0 x1 x2 hlX
    have x0 := HX.out.cell (j := 0) rfl
    have x1 := HX.out.cell (j := 1) rfl
    have x2 := HX.out.cell (j := 2) rfl
    have hlX := HX.out.lt
    go_wp2_with fail
    have hbF : Below w2.heap.size w2 (w2.alloc (.cells #[.func (.func 143) #[] #[], .func (.func 144) #[.agg #[.int .i64 d.lim, .int .i64 d.top, .slice ad d.es.length cap]] #[]] 179)) := (Below.refl _ _).alloc (Nat.le_refl _) _
    have hF : Reads (w2.alloc (.cells #[.func (.func 143) #[] #[], .func (.func 144) #[.agg #[.int .i64 d.lim, .int .i64 d.top, .slice ad d.es.length cap]] #[]] 179)) (.slice (some ⟨w2.heap.size, 0, none⟩) 2 2) 2 1 (([.inl true, .inr (d.lim, d.top, ad, d.es.length, cap)] : List Wn).map wnV) := reads_of_owns (owns_lit w2 179 1 2 #[.func (.func 143) #[] #[], .func (.func 144) #[.agg #[.int .i64 d.lim, .int .i64 d.top, .slice ad d.es.length cap]] #[]] rfl (by omega))
    replace HX := hide (HX.out.new hbF)
    replace HB := hide (bchain HB.out hbF)
    refine (honly (some ⟨w2.heap.size, 0, none⟩) 2 _ (HR.out.new HB.out) hF hL (by simp)).mono ?_
    rintro z w3 ⟨v3, rfl, ho3, hb3⟩
    obtain ⟨a3, p3, rfl, _⟩ := owns_form ho3
    replace HX := hide (HX.out.new hb3)
    replace HB := hide (bchain HB.out hb3)
    clear hF hbF hb3 ho3 x0 x1 x2 hlX
    by_cases hml2 : M.length = d.es.length
    rotate_left
    · have hne : ((M.length : Int) != d.es.length) = true := by simp; omega
      have HF : Hid (A = false) := by
        show A = false
        rw [HA2.out]
        cases hq : d.es.all (entOk d.top)
        · rfl
        · exact absurd (HKP.out.2 hq) hml2
      clear hml2
      go_wp2_with fail
      go_ret
      exact ⟨by rw [HF.out]; rfl, HB.out⟩
    have hne : ((M.length : Int) != d.es.length) = false := by simp; omega
    have HA3 : Hid (A = (risB d.es && decide (q ≤ d.lim))) := by show A = _; rw [HA2.out, HKP.out.1 hml2]; simp
    clear hml2 HA2
    go_wp2_with fail
    refine (hris _ (HR.out.new HB.out) hL).mono ?_
    cases hrs : risB d.es
    · rintro z w4 ⟨rfl, hb4⟩
      have HF : Hid (A = false) := by show A = false; rw [HA3.out, hrs]; rfl
      replace HB := hide (bchain HB.out hb4)
      clear hb4
      go_wp2_with fail
      go_ret
      exact ⟨by rw [HF.out]; rfl, HB.out⟩
    rintro z w4 ⟨rfl, hb4⟩
    have HF : Hid (A = decide (q ≤ d.lim)) := by show A = _; rw [HA3.out, hrs]; simp
    replace HX := hide (HX.out.new hb4)
    replace HB := hide (bchain HB.out hb4)
    clear hb4 hrs HA3
    have x0 := HX.out.cell (j := 0) rfl
    have x1 := HX.out.cell (j := 1) rfl
    have x2 := HX.out.cell (j := 2) rfl
    have hlX := HX.out.lt
    have q0 : ∀ y : Later w4, y.w.cell? ⟨w.heap.size, 0, none⟩ = some (.int .i64 d.lim) := fun y => (y.b.cell (p := ⟨w.heap.size, 0, none⟩) hlX).trans x0
    have q1 : ∀ y : Later w4, y.w.cell? ⟨w.heap.size, 1, none⟩ = some (.int .i64 d.top) := fun y => (y.b.cell (p := ⟨w.heap.size, 1, none⟩) hlX).trans x1
    have q2 : ∀ y : Later w4, y.w.cell? ⟨w.heap.size, 2, none⟩ = some (.slice ad d.es.length cap) := fun y => (y.b.cell (p := ⟨w.heap.size, 2, none⟩) hlX).trans x2
    clear x0 x1 x2
    have hrd : ∀ y : Later w4, RdR entryS y.w (.slice ad d.es.length cap) d.es := fun y => (HR.out.new HB.out).new y.b
    go_upto_region 7 with fail
    have hne : Nonempty (Later w4) := ⟨⟨w4, Below.refl _ _⟩⟩; refine region_later (by kernel_rfl) (by kernel_rfl) ?_
    repeat (go_big_quiet_step (fail))
    go_big_quiet_want; go_big_quiet_op; refine ⟨.int .i64 q, fun y => later_calls (x := y) (hlv y.w (hrd y)), ?_⟩; go_big_quiet_on
    repeat (go_big_quiet_step (fail))
    refine wpQuiet_nil ?_; intro _ hw'; obtain ⟨y, hw''⟩ := hw'; subst hw''; have hby := y.b
    go_wp2_with fail
    go_ret
    exact ⟨by rw [HF.out]; rfl, bchain HB.out hby⟩
  · rw [ht1] at hid
    go_enter Tryz.func127, Tryz.ntmps127
    go_wp2_with fail
    refine (hid _).mono ?_; rintro e w1 ⟨rfl, hsame⟩; obtain rfl := hsame.symm; clear hsame
    go_upto_region 2 with fail
    generalize hV : w.alloc (.cells #[.int .i64 d.lim, .int .i64 d.top, .slice ad d.es.length cap] 57) = V
    have hbV : Below w.heap.size w V := by rw [← hV]; exact (Below.refl _ _).alloc (Nat.le_refl _) _
    have HX : Hid (RowIs V w.heap.size 57 [.int .i64 d.lim, .int .i64 d.top, .slice ad d.es.length cap]) := by show RowIs _ _ _ _; rw [← hV]; exact rowIs_new w 57 [.int .i64 d.lim, .int .i64 d.top, .slice ad d.es.length cap]
    clear hV
    have HB := hide hbV
    clear hbV
    have x0 := HX.out.cell (j := 0) rfl
    have x1 := HX.out.cell (j := 1) rfl
    have x2 := HX.out.cell (j := 2) rfl
    have hlX := HX.out.lt
    go_wp2_with fail
    refine (hlm _).mono ?_; rintro e w1 ⟨rfl, hsame⟩; obtain rfl := hsame.symm; clear hsame
    go_wp2_with fail
    refine (hls _ (HR.out.new HB.out)).mono ?_; rintro z w2 ⟨rfl, hb2⟩
    replace HX := hide (HX.out.new hb2)
    replace HB := hide (bchain HB.out hb2)
    clear hb2 x0 x1 x2 hlX
    have x0 := HX.out.cell (j := 0) rfl
    have x1 := HX.out.cell (j := 1) rfl
    have x2 := HX.out.cell (j := 2) rfl
    have hlX := HX.out.lt
    go_wp2_with fail
    have hbF : Below w2.heap.size w2 (w2.alloc (.cells #[.func (.func 143) #[] #[], .func (.func 144) #[.agg #[.int .i64 d.lim, .int .i64 d.top, .slice ad d.es.length cap]] #[]] 179)) := (Below.refl _ _).alloc (Nat.le_refl _) _
    have hF : Reads (w2.alloc (.cells #[.func (.func 143) #[] #[], .func (.func 144) #[.agg #[.int .i64 d.lim, .int .i64 d.top, .slice ad d.es.length cap]] #[]] 179)) (.slice (some ⟨w2.heap.size, 0, none⟩) 2 2) 2 1 (([.inl true, .inr (d.lim, d.top, ad, d.es.length, cap)] : List Wn).map wnV) := reads_of_owns (owns_lit w2 179 1 2 #[.func (.func 143) #[] #[], .func (.func 144) #[.agg #[.int .i64 d.lim, .int .i64 d.top, .slice ad d.es.length cap]] #[]] rfl (by omega))
    replace HX := hide (HX.out.new hbF)
    replace HB := hide (bchain HB.out hbF)
    refine (honly (some ⟨w2.heap.size, 0, none⟩) 2 _ (HR.out.new HB.out) hF hL (by simp)).mono ?_
    rintro z w3 ⟨v3, rfl, ho3, hb3⟩
    obtain ⟨a3, p3, rfl, _⟩ := owns_form ho3
    replace HX := hide (HX.out.new hb3)
    replace HB := hide (bchain HB.out hb3)
    clear hF hbF hb3 ho3 x0 x1 x2 hlX
    by_cases hml2 : M.length = d.es.length
    rotate_left
    · have hne : ((M.length : Int) != d.es.length) = true := by simp; omega
      have HF : Hid (A = false) := by
        show A = false
        rw [HA2.out]
        cases hq : d.es.all (entOk d.top)
        · rfl
        · exact absurd (HKP.out.2 hq) hml2
      clear hml2
      go_wp2_with fail
      go_ret
      exact ⟨by rw [HF.out]; rfl, HB.out⟩
    have hne : ((M.length : Int) != d.es.length) = false := by simp; omega
    have HA3 : Hid (A = (risB d.es && decide (q ≤ d.lim))) := by show A = _; rw [HA2.out, HKP.out.1 hml2]; simp
    clear hml2 HA2
    go_wp2_with fail
    refine (hris _ (HR.out.new HB.out) hL).mono ?_
    cases hrs : risB d.es
    · rintro z w4 ⟨rfl, hb4⟩
      have HF : Hid (A = false) := by show A = false; rw [HA3.out, hrs]; rfl
      replace HB := hide (bchain HB.out hb4)
      clear hb4
      go_wp2_with fail
      go_ret
      exact ⟨by rw [HF.out]; rfl, HB.out⟩
    rintro z w4 ⟨rfl, hb4⟩
    have HF : Hid (A = decide (q ≤ d.lim)) := by show A = _; rw [HA3.out, hrs]; simp
    replace HX := hide (HX.out.new hb4)
    replace HB := hide (bchain HB.out hb4)
    clear hb4 hrs HA3
    have x0 := HX.out.cell (j := 0) rfl
    have x1 := HX.out.cell (j := 1) rfl
    have x2 := HX.out.cell (j := 2) rfl
    have hlX := HX.out.lt
    have q0 : ∀ y : Later w4, y.w.cell? ⟨w.heap.size, 0, none⟩ = some (.int .i64 d.lim) := fun y => (y.b.cell (p := ⟨w.heap.size, 0, none⟩) hlX).trans x0
    have q1 : ∀ y : Later w4, y.w.cell? ⟨w.heap.size, 1, none⟩ = some (.int .i64 d.top) := fun y => (y.b.cell (p := ⟨w.heap.size, 1, none⟩) hlX).trans x1
    have q2 : ∀ y : Later w4, y.w.cell? ⟨w.heap.size, 2, none⟩ = some (.slice ad d.es.length cap) := fun y => (y.b.cell (p := ⟨w.heap.size, 2, none⟩) hlX).trans x2
    clear x0 x1 x2
    have hrd : ∀ y : Later w4, RdR entryS y.w (.slice ad d.es.length cap) d.es := fun y => (HR.out.new HB.out).new y.b
    go_upto_region 7 with fail
    have hne : Nonempty (Later w4) := ⟨⟨w4, Below.refl _ _⟩⟩; refine region_later (by kernel_rfl) (by kernel_rfl) ?_
    repeat (go_big_quiet_step (fail))
    go_big_quiet_want; go_big_quiet_op; refine ⟨.int .i64 q, fun y => later_calls (x := y) (hlv y.w (hrd y)), ?_⟩; go_big_quiet_on
    repeat (go_big_quiet_step (fail))
    refine wpQuiet_nil ?_; intro _ hw'; obtain ⟨y, hw''⟩ := hw'; subst hw''; have hby := y.b
    go_wp2_with fail
    go_ret
    exact ⟨by rw [HF.out]; rfl, bchain HB.out hby⟩
end Go.Proofs.YtkhclhnejnpkeaaGreat
/- Chapter 15's program: whether tenants are right, where each name is (a map), a tenant in memory of its own. -/
namespace Go.Proofs.YtkhclhnejnpkeaaGreat
open Go.RowKit
set_option maxRecDepth 100000
set_option linter.unusedSimpArgs false
set_option linter.unusedVariables false
set_option maxHeartbeats 2000000 in
theorem implTenantsOk (L : List TenantD) (v : Value) (w : World) (hr : RdR tenantS w v L) : Calls Tryz.prog 41 #[v] w fun x w' => x = .returned (.bool (okTs L)) ∧ Below w.heap.size w w' := by
  obtain ⟨ad, cap, rfl, h1, h2⟩ := hr.form
  obtain ⟨A, hA⟩ : ∃ A, okTs L = A := ⟨_, rfl⟩
  rw [hA]
  have HA : Hid (A = (decide (L.length ≤ 8) && (decide (numT15 L = L.length) && risT L))) := by show A = _; rw [← hA, okTs_way]
  have HR := hide hr
  clear hA hr
  by_cases h8 : (8 : Int) < L.length
  · have HV : Hid (A = false) := by show A = _; rw [HA.out, decide_eq_false (by omega)]; rfl
    go_enter Tryz.func41, Tryz.ntmps41
    go_wp2_with fail
    go_ret
    exact ⟨by rw [HV.out]; rfl, (by repeat' (first | (with_reducible exact Below.refl _ _) | (with_reducible refine Below.drew ?_) | (with_reducible refine bo_drewN _ ?_) | (with_reducible refine bo_alloc ?_ _) | (refine bchain ?_ (by with_reducible assumption)) | (with_reducible refine Below.setCell ?_ ?_ _) | go_size))⟩
  have hL8 : L.length ≤ 8 := by omega
  have hbF : Below w.heap.size w (w.alloc (.cells #[.func (.func 81) #[] #[]] 145)) := (Below.refl _ _).alloc (Nat.le_refl _) _
  have hF : (w.alloc (.cells #[.func (.func 81) #[] #[]] 145)).cell? ⟨w.heap.size, 0, none⟩ = some (.func (.func 81) #[] #[]) := (rowIs_new w 145 [.func (.func 81) #[] #[]]).cell (j := 0) rfl
  have hO := implOnlyT L (.slice ad L.length cap) w.heap.size _ (HR.out.new hbF) hF (by simp) hL8
  have hRs := fun w h => implRisesT L (.slice ad L.length cap) w h hL8
  have hnl := num_le L
  have HB := hide hbF
  clear hbF hF
  obtain ⟨N, hN⟩ : ∃ N, numT15 L = N := ⟨_, rfl⟩
  rw [hN] at hO HA hnl
  clear hN
  by_cases hq : N = L.length
  · subst hq
    have HV : Hid (A = risT L) := by show A = _; rw [HA.out, decide_eq_true hL8]; simp
    go_enter Tryz.func41, Tryz.ntmps41
    go_wp2_with fail
    refine hO.mono ?_; rintro e w1 ⟨a1, p1, rfl, q1, q2, hb1⟩
    replace HB := hide (bchain HB.out hb1)
    clear hb1 hO
    go_wp2_with fail
    refine (hRs _ (HR.out.new HB.out)).mono ?_; rintro e w2 ⟨rfl, hb2⟩
    replace HB := hide (bchain HB.out hb2)
    clear hb2
    go_wp2_with fail
    go_ret
    exact ⟨by rw [HV.out]; rfl, HB.out⟩
  · have HV : Hid (A = false) := by show A = _; rw [HA.out, decide_eq_false hq]; simp
    have hqI : ¬ (N : Int) = L.length := by omega
    have hqB : ((N : Int) == (L.length : Int)) = false := by simpa using hqI
    go_enter Tryz.func41, Tryz.ntmps41
    go_wp2_with fail
    refine hO.mono ?_; rintro e w1 ⟨a1, p1, rfl, q1, q2, hb1⟩
    replace HB := hide (bchain HB.out hb1)
    clear hb1 hO
    go_wp2_with fail
    go_ret
    exact ⟨by rw [HV.out]; rfl, HB.out⟩
set_option maxHeartbeats 4000000 in
theorem implPlacesBy (L : List TenantD) (v : Value) (w : World) (hr : RdR tenantS w v L) (hok : okTs L = true) : Calls Tryz.prog 104 #[v] w fun x w' => ∃ g, x = .returned (.map (some g)) ∧ MapStr w' g (fun name => if 0 ≤ atV L name then some (atV L name) else none) ∧ Below w.heap.size w w' := by
  obtain ⟨ad, cap, rfl, h1, h2⟩ := hr.form
  have HR := hide hr
  have HST := hide (fun k hk => plN_step hok (k := k) hk)
  have hl8 := (okTs_iff.1 hok).1
  clear hr hok
  have hmm := fun n w => ms_make n w
  have hbM : Below w.heap.size w (w.alloc (.map #[] 0)) := (Below.refl _ _).alloc (Nat.le_refl _) _
  have HM0 : Hid (MapStr (w.alloc (.map #[] 0)) w.heap.size (plN L 0)) := (ms_made w).ext (fun s => (plN_zero L s).symm)
  have HB0 := hide hbM
  clear hbM
  go_enter Tryz.func104, Tryz.ntmps104
  go_wp2_with fail
  go_loopw [11, 4, 5] (fun i _ _ wr => ∃ (k : Nat), i = .int .i64 k ∧ k ≤ L.length ∧ Hid (MapStr wr w.heap.size (plN L k)) ∧ Hid (Below w.heap.size w wr)) (fun i _ _ _ => L.length - (intOf i).toNat)
  case atStart => exact ⟨0, rfl, Nat.zero_le _, HM0, HB0⟩
  case round =>
    clear HM0 HB0
    obtain ⟨k, rfl, hk, HM, HB⟩ := hrel
    by_cases hlt : k < L.length
    · obtain ⟨b, o, al, pl, rfl, hbw, c0, c1, c2, c3, f0, f1, hls, q1, q2⟩ := ten_at (HR.out.new HB.out) hlt
      have HS := hide (HST.out k hlt)
      obtain ⟨x, hx⟩ : ∃ x, tn L k = x := ⟨_, rfl⟩
      rw [hx] at c0 c1 c2 c3 q1 HS
      have hltI : (k : Int) < L.length := by omega
      clear hx hls f0 f1
      have hX : Below wr.heap.size wr (wr.alloc (.cells #[.string x.nm, .string x.key, .slice al x.list.length pl, .int .i64 x.quota] 88)) := (Below.refl _ _).alloc (Nat.le_refl _) _
      have RX := rowIs_new wr 88 [.string x.nm, .string x.key, .slice al x.list.length pl, .int .i64 x.quota]
      have HMX := HM.out.new hX
      have HBX := bchain HB.out hX
      have hgl := HM.out.lt
      go_upto_region 5 with fail
      clear hX c0 c1 c2 c3 hbw HM HB
      generalize wr.heap.size = ge at *
      generalize wr.alloc (.cells #[.string x.nm, .string x.key, .slice al x.list.length pl, .int .i64 x.quota] 88) = X at *
      obtain ⟨w2, hr2, M2, g2⟩ := ms_update HMX x.nm k HS.out.1
      have x0 := RX.cell (j := 0) rfl
      have xl := RX.lt
      have HM2 := hide (M2.ext HS.out.2)
      have HB2 := hide (HBX.grown g2 HBX.size (fun q hq => by cases hq; exact Nat.le_refl _))
      clear HMX HBX RX M2 g2 HS
      go_wp2_with fail
      go_roundw
      case rel => exact ⟨k + 1, by go_num, by omega, HM2, HB2⟩
      case measure => simp [intOf]; omega
    · have hltI : ¬ (k : Int) < L.length := by omega
      go_wp2_with fail
      go_ret
      exact ⟨_, rfl, HM.out.ext (fun s => plN_end (by omega) s), HB.out⟩
end Go.Proofs.YtkhclhnejnpkeaaGreat
