/- Chapter 15's program, its small words: a right tenant, which name is below, how many are right, whether they rise, whether all are right. -/
import Derived.Test.YtfemmnhfllbgjaaGreatDoorTenWays
import Derived.Test.YtfemmnhfllbgjaaGreatDoorTenSpec2
import Derived.Test.YtfemmnhfllbgjaaGreatDoorTokImpl
import Derived.Test.YtfemmnhfllbgjaaGreatDoorTokNum
import Derived.Deep.RegionHeld3
import Derived.Deep.LoopGhost
import Derived.WalkMore


namespace Go.Proofs.YtfemmnhfllbgjaaGreatDoor
open Go.RowKit
set_option maxRecDepth 100000
set_option linter.unusedSimpArgs false
set_option linter.unusedVariables false
set_option maxHeartbeats 2000000 in
theorem implTRight (d : TenantD) (a : Option Addr) (p : Nat) (w : World) (hl : RdR strS w (.slice a d.list.length p) d.list) (hf0 : d.nm.size ≤ 9223372036854775807) (hf1 : d.key.size ≤ 9223372036854775807) : Calls Tryz.prog 42 #[.agg #[.string d.nm, .string d.key, .slice a d.list.length p, .int .i64 d.quota]] w fun x w' => x = .returned (.bool (okTn d)) ∧ Below w.heap.size w w' := by
  rw [okTn_way]
  have hN := fun w => implName d.nm w (by unfold maxLen; exact hf0)
  have hK := fun w => implWithin (d.key.size : Int) 1 40 w
  have hQ := fun w => implWithin d.quota 0 20 w
  have HP : Hid (∀ w' : World, Below w.heap.size w w' → Calls Tryz.prog 47 #[.slice a d.list.length p] w' fun x w2 => x = .returned (.bool (plcB d.list)) ∧ w2 = w') := fun w' hb => implPlaces d.list _ w' (rd_strs (hl.new hb)) (fun x hx => by unfold maxLen; exact rd_small hl x hx)
  obtain ⟨_, _, hq, _, _⟩ := hl.form
  simp only [Value.slice.injEq] at hq
  clear hq hl
  cases h0 : nameB d.nm
  · rw [h0] at hN
    go_enter Tryz.func42, Tryz.ntmps42
    go_wp2_with fail
    refine (hN _).mono ?_; rintro e w1 ⟨rfl, hsame⟩; obtain rfl := hsame.symm; clear hsame
    go_wp2_with fail
    go_ret
    exact ⟨rfl, (by repeat' (first | (with_reducible exact Below.refl _ _) | (with_reducible refine Below.drew ?_) | (with_reducible refine bo_drewN _ ?_) | (with_reducible refine bo_alloc ?_ _) | (refine bchain ?_ (by with_reducible assumption)) | (with_reducible refine Below.setCell ?_ ?_ _) | go_size))⟩
  rw [h0] at hN
  cases h1 : inB (d.key.size : Int) 1 40
  · rw [h1] at hK
    go_enter Tryz.func42, Tryz.ntmps42
    go_wp2_with fail
    refine (hN _).mono ?_; rintro e w1 ⟨rfl, hsame⟩; obtain rfl := hsame.symm; clear hsame
    go_wp2_with fail
    refine (hK _).mono ?_; rintro e w1 ⟨rfl, hsame⟩; obtain rfl := hsame.symm; clear hsame
    go_wp2_with fail
    go_ret
    exact ⟨rfl, (by repeat' (first | (with_reducible exact Below.refl _ _) | (with_reducible refine Below.drew ?_) | (with_reducible refine bo_drewN _ ?_) | (with_reducible refine bo_alloc ?_ _) | (refine bchain ?_ (by with_reducible assumption)) | (with_reducible refine Below.setCell ?_ ?_ _) | go_size))⟩
  rw [h1] at hK
  cases h2 : plcB d.list
  · rw [h2] at HP
    go_enter Tryz.func42, Tryz.ntmps42
    go_wp2_with fail
    refine (hN _).mono ?_; rintro e w1 ⟨rfl, hsame⟩; obtain rfl := hsame.symm; clear hsame
    go_wp2_with fail
    refine (hK _).mono ?_; rintro e w1 ⟨rfl, hsame⟩; obtain rfl := hsame.symm; clear hsame
    go_wp2_with fail
    refine (HP.out _ (by repeat' (first | (with_reducible exact Below.refl _ _) | (with_reducible refine Below.drew ?_) | (with_reducible refine bo_drewN _ ?_) | (with_reducible refine bo_alloc ?_ _) | (refine bchain ?_ (by with_reducible assumption)) | (with_reducible refine Below.setCell ?_ ?_ _) | go_size))).mono ?_; rintro e w1 ⟨rfl, hsame⟩; obtain rfl := hsame.symm; clear hsame
    go_wp2_with fail
    go_ret
    exact ⟨rfl, (by repeat' (first | (with_reducible exact Below.refl _ _) | (with_reducible refine Below.drew ?_) | (with_reducible refine bo_drewN _ ?_) | (with_reducible refine bo_alloc ?_ _) | (refine bchain ?_ (by with_reducible assumption)) | (with_reducible refine Below.setCell ?_ ?_ _) | go_size))⟩
  rw [h2] at HP
  go_enter Tryz.func42, Tryz.ntmps42
  go_wp2_with fail
  refine (hN _).mono ?_; rintro e w1 ⟨rfl, hsame⟩; obtain rfl := hsame.symm; clear hsame
  go_wp2_with fail
  refine (hK _).mono ?_; rintro e w1 ⟨rfl, hsame⟩; obtain rfl := hsame.symm; clear hsame
  go_wp2_with fail
  refine (HP.out _ (by repeat' (first | (with_reducible exact Below.refl _ _) | (with_reducible refine Below.drew ?_) | (with_reducible refine bo_drewN _ ?_) | (with_reducible refine bo_alloc ?_ _) | (refine bchain ?_ (by with_reducible assumption)) | (with_reducible refine Below.setCell ?_ ?_ _) | go_size))).mono ?_; rintro e w1 ⟨rfl, hsame⟩; obtain rfl := hsame.symm; clear hsame
  go_wp2_with fail
  refine (hQ _).mono ?_; rintro e w1 ⟨rfl, hsame⟩; obtain rfl := hsame.symm; clear hsame
  go_wp2_with fail
  go_ret
  exact ⟨rfl, (by repeat' (first | (with_reducible exact Below.refl _ _) | (with_reducible refine Below.drew ?_) | (with_reducible refine bo_drewN _ ?_) | (with_reducible refine bo_alloc ?_ _) | (refine bchain ?_ (by with_reducible assumption)) | (with_reducible refine Below.setCell ?_ ?_ _) | go_size))⟩
theorem implTBelow (x y : TenantD) (a b : Option Addr) (p q : Nat) (w : World) : Calls Tryz.prog 44 #[.agg #[.string x.nm, .string x.key, .slice a x.list.length p, .int .i64 x.quota], .agg #[.string y.nm, .string y.key, .slice b y.list.length q, .int .i64 y.quota]] w fun e w' => e = .returned (.bool (Op.bytesLess x.nm.toList y.nm.toList)) ∧ Below w.heap.size w w' := by
  go_enter Tryz.func44, Tryz.ntmps44
  go_wp2_with fail
  go_ret
  exact ⟨rfl, (by repeat' (first | (with_reducible exact Below.refl _ _) | (with_reducible refine Below.drew ?_) | (with_reducible refine bo_drewN _ ?_) | (with_reducible refine bo_alloc ?_ _) | (refine bchain ?_ (by with_reducible assumption)) | (with_reducible refine Below.setCell ?_ ?_ _) | go_size))⟩
set_option maxHeartbeats 4000000 in
theorem implOnlyT (L : List TenantD) (v : Value) (fb : Nat) (w : World) (hr : RdR tenantS w v L) (hf : w.cell? ⟨fb, 0, none⟩ = some (.func (.func 42) #[] #[])) (hfl : fb < w.heap.size) (hL : L.length ≤ 8) :
    Calls Tryz.prog 41 #[v, .slice (some ⟨fb, 0, none⟩) 1 1] w fun x w' => ∃ a p, x = .returned (.slice a (numT15 L) p) ∧ numT15 L ≤ p ∧ p ≤ 9223372036854775807 ∧ Below w.heap.size w w' := by
  obtain ⟨ad, cap, rfl, h1, h2⟩ := hr.form
  have HR := hide hr
  have HF : Hid (∀ w' : World, Below w.heap.size w w' → w'.cell? ⟨fb, 0, none⟩ = some (.func (.func 42) #[] #[]) ∧ fb < w'.heap.size) := fun w' hb => ⟨(hb.cell (p := ⟨fb, 0, none⟩) hfl).trans hf, Nat.lt_of_lt_of_le hfl hb.size⟩
  clear hr hf hfl
  obtain ⟨N, hN⟩ : ∃ N, numT15 L = N := ⟨_, rfl⟩
  rw [hN]
  have HN := hide hN
  clear hN
  go_enter Tryz.func41, Tryz.ntmps41
  go_wp2_with fail
  go_step3
  go_wp2_with fail
  go_step3
  go_wp2_with fail
  go_loopg [5, 12] L.length (fun g s i wr => ∃ (k : Nat) (a : Option Addr) (p M : Nat) (xs : List Value), k + g = L.length ∧ i = .int .i64 k ∧ s = .slice a M p ∧ Hid (numT15 (L.take k) = M) ∧ Hid (wr.ownsRow w.heap.size 32 4 (.slice a M p) M xs) ∧ Hid (Below w.heap.size w wr))
  case atStart => exact ⟨0, none, 0, 0, [], by omega, rfl, rfl, rfl, World.ownsRow_nil w w.heap.size 32 4, Below.refl _ _⟩
  case round =>
    obtain ⟨k, a, p, M, xs, hkg, rfl, rfl, HM, HO, HB⟩ := hrel
    cases gk with
    | zero =>
      have hkz : ¬ ((k : Int) < (L.length : Int)) := by omega
      have HMM : Hid (M = N) := by show M = _; rw [← HM.out, ← HN.out, List.take_of_length_le (by omega)]
      clear hkg
      go_wp2_with fail
      try rw [Exit.noGoto_ret]
      go_ret
      have := HMM.out
      subst this
      obtain ⟨_, _, he, q1, q2⟩ := owns_form HO.out
      simp only [Value.slice.injEq] at he
      obtain ⟨rfl, -, rfl⟩ := he
      exact ⟨_, _, rfl, q1, q2, HB.out⟩
    | succ go1 =>
      have hlt : k < L.length := by omega
      obtain ⟨b, o, al, pl, rfl, hbw, c0, c1, c2, c3, f0, f1, hls, q1, q2⟩ := ten_at (HR.out.new HB.out) hlt
      obtain ⟨e, he⟩ : ∃ e, tn L k = e := ⟨_, rfl⟩
      have HY : Hid (okTn e = true → numT15 (L.take (k + 1)) = M + 1) := by rw [← he, ← HM.out]; exact num_yes hlt
      have HNO : Hid (okTn e = false → numT15 (L.take (k + 1)) = M) := by rw [← he, ← HM.out]; exact num_no hlt
      rw [he] at c0 c1 c2 c3 f0 f1 hls q1
      have hkl : M ≤ k := by have := num_le (L.take k); rw [List.length_take, HM.out] at this; omega
      clear he HM
      go_upto_region 5 with fail
      have hbe : Below wr.heap.size wr (wr.alloc (.cells #[.string e.nm, .string e.key, .slice al e.list.length pl, .int .i64 e.quota] 32)) := (Below.refl _ _).alloc (Nat.le_refl _) _
      have HE : Hid (RowIs (wr.alloc (.cells #[.string e.nm, .string e.key, .slice al e.list.length pl, .int .i64 e.quota] 32)) wr.heap.size 32 [.string e.nm, .string e.key, .slice al e.list.length pl, .int .i64 e.quota]) := rowIs_new wr 32 [.string e.nm, .string e.key, .slice al e.list.length pl, .int .i64 e.quota]
      have HLS := hide (hls.new hbe)
      generalize wr.alloc (.cells #[.string e.nm, .string e.key, .slice al e.list.length pl, .int .i64 e.quota] 32) = X at *
      have HOX := hide (owns_new HO.out hbe)
      have HBX := hide (bchain HB.out hbe)
      have hne : (Value.slice a M p).ownBlock ≠ some wr.heap.size := fun hq => by have := (HO.out.lt _ hq).2; omega
      have HNE := hide hne
      have HGB : Hid (w.heap.size ≤ wr.heap.size) := HB.out.size
      generalize wr.heap.size = go at *
      clear c0 c1 c2 c3 hbe HO hne HB hls
      go_wp2_with fail
      go_loopg [18] 1 (fun g i wi => ∃ (j : Nat), j + g = 1 ∧ i = .int .i64 j ∧ Hid (0 < j → okTn e = true) ∧ Hid (RowIs wi go 32 [.string e.nm, .string e.key, .slice al e.list.length pl, .int .i64 e.quota]) ∧ Hid (RdR strS wi (.slice al e.list.length pl) e.list) ∧ Hid (wi.ownsRow w.heap.size 32 4 (.slice a M p) M xs) ∧ Hid (Below w.heap.size w wi))
      case atStart => exact ⟨0, by omega, rfl, by intro h; exact absurd h (Nat.lt_irrefl _), HE, HLS, HOX, HBX⟩
      case round =>
        clear HE HLS HOX HBX
        obtain ⟨j, hjg, rfl, HA, HE, HLS, HO, HB⟩ := hrel
        have hlE := HE.out.lt
        have e0 := HE.out.cell (j := 0) rfl
        have e1 := HE.out.cell (j := 1) rfl
        have e2 := HE.out.cell (j := 2) rfl
        have e3 := HE.out.cell (j := 3) rfl
        cases gk with
        | zero =>
          obtain rfl : j = 1 := by omega
          have HM2 := hide (HY.out (HA.out Nat.one_pos))
          clear hjg
          have hX : Below wr.heap.size wr (wr.alloc (.cells #[.string e.nm, .string e.key, .slice al e.list.length pl, .int .i64 e.quota] 32)) := (Below.refl _ _).alloc (Nat.le_refl _) _
          have hownX := owns_new HO.out hX
          have hRd : Reads (wr.alloc (.cells #[.string e.nm, .string e.key, .slice al e.list.length pl, .int .i64 e.quota] 32)) (.slice (some ⟨wr.heap.size, 0, none⟩) 1 1) 1 4 [.string e.nm, .string e.key, .slice al e.list.length pl, .int .i64 e.quota] := reads_of_owns (owns_lit wr 32 4 1 #[.string e.nm, .string e.key, .slice al e.list.length pl, .int .i64 e.quota] rfl (by omega))
          have hone : ∀ y ∈ ([.string e.nm, .string e.key, .slice al e.list.length pl, .int .i64 e.quota] : List Value), y.oneCell' = true := by intro y hy; simp at hy; rcases hy with rfl | rfl | rfl | rfl <;> rfl
          have HBX := hide (bchain HB.out hX)
          have hbs := HBX.out.size
          go_wp2_with (at_builtin; refine wpList_app _ (by rfl) _ _ 62 (by rfl) 32 (.agg #[.string ⟨#[]⟩, .string ⟨#[]⟩, .slice none 0 0, .int .i64 0]) 4 64 Tryz.underlying62 (by kernel_rfl) rfl (by decide) w.heap.size _ M xs (by rfl) hownX _ 1 [.string e.nm, .string e.key, .slice al e.list.length pl, .int .i64 e.quota] (by rfl) hRd hone (by omega) (by decide) hbs ?_)
          intro ad7 cap7 w7 hown7 hg7 hat7
          have HB7 : Hid (Below w.heap.size w w7) := by
            have hb := HBX.out
            exact ⟨hg7.os.trans hb.os, hg7.tape.trans hb.tape, hg7.output.trans hb.output, Nat.le_trans hb.size hg7.size, fun k hk => (hg7.block k (by have := hb.size; omega) (fun e => by have := (hownX.lt k e.symm).1; omega)).trans (hb.block k hk)⟩
          have HO7 := hide hown7
          clear hown7 hg7 hat7 hownX hRd hX hbs hone
          go_wp2_with fail
          go_roundg go1
          case measure => omega
          case rel => exact ⟨k + 1, ad7, cap7, M + 1, _, by omega, by go_num, rfl, HM2, HO7, HB7⟩
        | succ gj =>
          obtain rfl : j = 0 := by omega
          obtain ⟨hcx, hfl⟩ := HF.out _ HB.out
          go_wp2_with fail
          refine (implTRight e al pl _ (HLS.out.new (by repeat' (first | (with_reducible exact Below.refl _ _) | (with_reducible refine Below.drew ?_) | (with_reducible refine bo_drewN _ ?_) | (with_reducible refine bo_alloc ?_ _) | (refine bchain ?_ (by with_reducible assumption)) | (with_reducible refine Below.setCell ?_ ?_ _) | go_size))) f0 f1).mono ?_; rintro z w5 ⟨rfl, hb5⟩
          replace HE := hide (HE.out.new hb5)
          replace HLS := hide (HLS.out.new hb5)
          replace HO := hide (owns_new HO.out hb5)
          replace HB := hide (bchain HB.out hb5)
          clear hb5 e0 e1 e2 e3 hcx
          cases hq : okTn e
          · have HM2 := hide (HNO.out hq)
            clear hq
            go_wp2_with fail
            go_roundg go1
            case measure => omega
            case rel => exact ⟨k + 1, a, p, M, xs, by omega, by go_num, rfl, HM2, HO, HB⟩
          · have HA2 : Hid (0 < 1 → okTn e = true) := fun _ => hq
            clear hq
            go_wp2_with fail
            go_roundg gj
            case measure => omega
            case rel => exact ⟨1, by omega, by go_num, HA2, HE, HLS, HO, HB⟩
set_option maxHeartbeats 4000000 in
theorem implRisesT (L : List TenantD) (v : Value) (w : World) (hr : RdR tenantS w v L) (hL : L.length ≤ 8) :
    Calls Tryz.prog 43 #[v, .func (.func 44) #[] #[]] w fun x w' => x = .returned (.bool (risT L)) ∧ Below w.heap.size w w' := by
  obtain ⟨ad, cap, rfl, h1, h2⟩ := hr.form
  have HR := hide hr
  clear hr
  obtain ⟨A, hA⟩ : ∃ A, risT L = A := ⟨_, rfl⟩
  rw [hA]
  have HA := hide hA
  clear hA
  go_enter Tryz.func43, Tryz.ntmps43
  go_wp2_with fail
  go_loopw [5] (fun i wr => ∃ (k : Nat), i = .int .i64 (k + 1 : Nat) ∧ k ≤ 60 ∧ Hid (∀ j, j + 1 < L.length → j < k → Op.bytesLess (tn L j).nm.toList (tn L (j + 1)).nm.toList = true) ∧ Hid (Below w.heap.size w wr)) (fun i _ => L.length + 1 - (intOf i).toNat)
  case atStart => exact ⟨0, rfl, by omega, fun j _ hj => absurd hj (Nat.not_lt_zero _), Below.refl _ _⟩
  case round =>
    obtain ⟨k, rfl, hk, HN, HB⟩ := hrel
    by_cases hlt : k + 1 < L.length
    · obtain ⟨b, o, al, pl, rfl, hbw, c0, c1, c2, c3, f0, f1, hls, q1, q2⟩ := ten_at (HR.out.new HB.out) (show k < L.length by omega)
      obtain ⟨b', o', am, pm, hbo, _, d0, d1, d2, d3, f2, f3, hms, q3, q4⟩ := ten_at (HR.out.new HB.out) hlt
      simp only [Option.some.injEq, Addr.mk.injEq] at hbo
      obtain ⟨rfl, rfl, -⟩ := hbo
      obtain ⟨e, he⟩ : ∃ e, tn L k = e := ⟨_, rfl⟩
      obtain ⟨f, hf⟩ : ∃ f, tn L (k + 1) = f := ⟨_, rfl⟩
      rw [he] at c0 c1 c2 c3 q1
      rw [hf] at d0 d1 d2 d3 q3
      have g0 : ∀ y : Later wr, y.w.cell? ⟨b, o + k * 4, none⟩ = some (.string e.nm) := fun y => (y.b.cell (p := ⟨b, o + k * 4, none⟩) hbw).trans c0
      have g1 : ∀ y : Later wr, y.w.cell? ⟨b, o + k * 4 + 1, none⟩ = some (.string e.key) := fun y => (y.b.cell (p := ⟨b, o + k * 4 + 1, none⟩) hbw).trans c1
      have g2 : ∀ y : Later wr, y.w.cell? ⟨b, o + k * 4 + 2, none⟩ = some (.slice al e.list.length pl) := fun y => (y.b.cell (p := ⟨b, o + k * 4 + 2, none⟩) hbw).trans c2
      have g3 : ∀ y : Later wr, y.w.cell? ⟨b, o + k * 4 + 3, none⟩ = some (.int .i64 e.quota) := fun y => (y.b.cell (p := ⟨b, o + k * 4 + 3, none⟩) hbw).trans c3
      have k0 : ∀ y : Later wr, y.w.cell? ⟨b, o + (k + 1) * 4, none⟩ = some (.string f.nm) := fun y => (y.b.cell (p := ⟨b, o + (k + 1) * 4, none⟩) hbw).trans d0
      have k1 : ∀ y : Later wr, y.w.cell? ⟨b, o + (k + 1) * 4 + 1, none⟩ = some (.string f.key) := fun y => (y.b.cell (p := ⟨b, o + (k + 1) * 4 + 1, none⟩) hbw).trans d1
      have k2 : ∀ y : Later wr, y.w.cell? ⟨b, o + (k + 1) * 4 + 2, none⟩ = some (.slice am f.list.length pm) := fun y => (y.b.cell (p := ⟨b, o + (k + 1) * 4 + 2, none⟩) hbw).trans d2
      have k3 : ∀ y : Later wr, y.w.cell? ⟨b, o + (k + 1) * 4 + 3, none⟩ = some (.int .i64 f.quota) := fun y => (y.b.cell (p := ⟨b, o + (k + 1) * 4 + 3, none⟩) hbw).trans d3
      have hbl := fun w => implTBelow e f al am pl pm w
      clear c0 c1 c2 c3 d0 d1 d2 d3 hls hms f0 f1 f2 f3
      cases hq : Op.bytesLess e.nm.toList f.nm.toList
      · have HF : Hid (A = false) := by
          show A = false
          rw [← HA.out]
          cases hz : risT L
          · rfl
          · have := risT_iff.1 hz k hlt
            rw [he, hf, hq] at this
            cases this
        rw [hq] at hbl
        clear hq he hf
        go_upto_region 4 with fail
        have hne : Nonempty (Later wr) := ⟨⟨wr, Below.refl _ _⟩⟩; refine region_later (by kernel_rfl) (by kernel_rfl) ?_
        repeat (go_big_quiet_step (fail))
        go_big_quiet_want; go_big_quiet_op; refine ⟨.bool false, fun y => later_calls (x := y) (hbl y.w), ?_⟩; go_big_quiet_on
        repeat (go_big_quiet_step (fail))
        refine wpQuiet_nil ?_; intro _ hw'; obtain ⟨y, hw''⟩ := hw'; subst hw''; have hby := y.b
        go_wp2_with fail
        go_ret
        exact ⟨by rw [HF.out]; rfl, bchain HB.out hby⟩
      · have HN2 : Hid (∀ j, j + 1 < L.length → j < k + 1 → Op.bytesLess (tn L j).nm.toList (tn L (j + 1)).nm.toList = true) := fun j hj hjk => by
          by_cases ej : j = k
          · subst ej; rw [he, hf]; exact hq
          · exact HN.out j hj (by omega)
        rw [hq] at hbl
        clear hq he hf
        go_upto_region 4 with fail
        have hne : Nonempty (Later wr) := ⟨⟨wr, Below.refl _ _⟩⟩; refine region_later (by kernel_rfl) (by kernel_rfl) ?_
        repeat (go_big_quiet_step (fail))
        go_big_quiet_want; go_big_quiet_op; refine ⟨.bool true, fun y => later_calls (x := y) (hbl y.w), ?_⟩; go_big_quiet_on
        repeat (go_big_quiet_step (fail))
        refine wpQuiet_nil ?_; intro _ hw'; obtain ⟨y, hw''⟩ := hw'; subst hw''; have hby := y.b
        have HB2 := hide (bchain HB.out hby)
        go_wp2_with fail
        go_roundw
        case rel => exact ⟨k + 1, by go_num, by omega, HN2, HB2⟩
        case measure => simp [intOf]; omega
    · have HF : Hid (A = true) := by
        show A = true
        rw [← HA.out]
        exact risT_iff.2 fun i hi => HN.out i hi (by omega)
      have hge : ¬ ((k + 1 : Nat) : Int) < (L.length : Int) := by omega
      go_wp2_with fail
      go_ret
      exact ⟨by rw [HF.out]; rfl, HB.out⟩
end Go.Proofs.YtfemmnhfllbgjaaGreatDoor
