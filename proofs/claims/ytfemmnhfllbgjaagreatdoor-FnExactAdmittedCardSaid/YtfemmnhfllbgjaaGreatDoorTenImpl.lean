/- Chapter 15's program: who is found, who is admitted, who reaches a place. -/
import Derived.Test.YtfemmnhfllbgjaaGreatDoorTenImpl2


namespace Go.Proofs.YtfemmnhfllbgjaaGreatDoor
open Go.RowKit
set_option maxRecDepth 100000
set_option linter.unusedSimpArgs false
set_option linter.unusedVariables false
theorem name_small {s : ByteArray} (h : nameB s = true) : s.size ≤ 20 := by
  unfold nameB at h
  rw [Bool.and_eq_true] at h
  have := inB_true h.2
  omega
set_option maxHeartbeats 4000000 in
theorem implTenantOf (L : List TenantD) (name : ByteArray) (v : Value) (w : World) (hr : RdR tenantS w v L) (hL : L.length ≤ 1048576) :
    Calls Tryz.prog 9 #[v, .string name] w fun x w' => ∃ vl, x = .returned (.tuple #[.agg #[.string (tenantV L name).1.nm, .string (tenantV L name).1.key, vl, .int .i64 (tenantV L name).1.quota], .bool (tenantV L name).2]) ∧ OwX strS w' w.heap.size w'.heap.size vl (tenantV L name).1.list ∧ Below w.heap.size w w' := by
  obtain ⟨ad, cap, rfl, h1, h2⟩ := hr.form
  obtain ⟨⟨⟨an, ak, al, aq⟩, ab⟩, hA⟩ : ∃ A, tenantV L name = A := ⟨_, rfl⟩
  rw [hA]
  dsimp only
  have HA := hide hA
  have HR := hide hr
  clear hA hr
  have hT := fun w h => implTenantsOk L (.slice ad L.length cap) w h
  have hX : Below w.heap.size w (w.alloc (.cells #[.string ⟨#[]⟩, .string ⟨#[]⟩, .slice none 0 0, .int .i64 0] 32)) := (Below.refl _ _).alloc (Nat.le_refl _) _
  have RX := hide (rowIs_new w 32 [.string ⟨#[]⟩, .string ⟨#[]⟩, .slice none 0 0, .int .i64 0])
  have HX := hide hX
  clear hX
  go_enter Tryz.func9, Tryz.ntmps9
  go_wp2_with fail
  generalize w.alloc (.cells #[.string ⟨#[]⟩, .string ⟨#[]⟩, .slice none 0 0, .int .i64 0] 32) = W at *
  refine (hT _ (HR.out.new HX.out)).mono ?_
  cases h0 : okTs L
  · rintro e w2 ⟨rfl, hb2⟩
    have HE : Hid (((⟨an, ak, al, aq⟩ : TenantD), ab) = (zTn, false)) := by show _ = _; rw [← HA.out]; unfold tenantV; rw [if_neg (by rw [h0]; simp)]
    obtain ⟨e1, rfl⟩ := Prod.mk.inj HE.out
    simp only [zTn, TenantD.mk.injEq] at e1
    obtain ⟨rfl, rfl, rfl, rfl⟩ := e1
    replace RX := hide (RX.out.new hb2)
    replace HX := hide (bchain HX.out hb2)
    clear hb2 hT HE
    have r0 := RowIs.cell (j := 0) RX.out rfl; have r1 := RowIs.cell (j := 1) RX.out rfl; have r2 := RowIs.cell (j := 2) RX.out rfl; have r3 := RowIs.cell (j := 3) RX.out rfl; have r9 := fun j => RowIs.frozen RX.out j; have r8 := RX.out.lt
    go_wp2_with fail
    refine bodyPost_ret (v := (.tuple #[.agg #[.string ⟨#[]⟩, .string ⟨#[]⟩, .slice none 0 0, .int .i64 0], .bool false])) (by simp [results, Tryz.results9, go_sem, *]) rfl ?_
    exact ⟨_, rfl, owX_nil _ _ _, by repeat' (first | (with_reducible exact HX.out) | (with_reducible refine Below.setCell ?_ ?_ _) | (with_reducible refine Below.alloc ?_ ?_ _) | (with_reducible refine Below.drew ?_) | (with_reducible refine bo_drewN _ ?_) | omega | (simp; done) | (simp; omega))⟩
  rintro e w2 ⟨rfl, hb2⟩
  replace RX := hide (RX.out.new hb2)
  replace HX := hide (bchain HX.out hb2)
  have HP := hide (fun w h => implPlacesBy L (.slice ad L.length cap) w h h0)
  clear hb2 hT
  go_wp2_with fail
  refine (HP.out _ (HR.out.new HX.out)).mono ?_; rintro e w3 ⟨gm, rfl, hM, hb3⟩
  replace RX := hide (RX.out.new hb3)
  replace HX := hide (bchain HX.out hb3)
  have hlk := ms_lookup hM name
  clear hb3 HP hM
  by_cases hz0 : 0 ≤ atV L name
  rotate_left
  · have HE : Hid (((⟨an, ak, al, aq⟩ : TenantD), ab) = (zTn, false)) := by show _ = _; rw [← HA.out]; unfold tenantV; rw [if_neg (fun c => hz0 c.2)]
    obtain ⟨e1, rfl⟩ := Prod.mk.inj HE.out
    simp only [zTn, TenantD.mk.injEq] at e1
    obtain ⟨rfl, rfl, rfl, rfl⟩ := e1
    rw [if_neg hz0] at hlk
    simp only [Option.getD_none, Option.isSome_none] at hlk
    clear HE h0 HA hz0
    have r0 := RowIs.cell (j := 0) RX.out rfl; have r1 := RowIs.cell (j := 1) RX.out rfl; have r2 := RowIs.cell (j := 2) RX.out rfl; have r3 := RowIs.cell (j := 3) RX.out rfl; have r9 := fun j => RowIs.frozen RX.out j; have r8 := RX.out.lt
    go_wp2_with fail
    refine bodyPost_ret (v := (.tuple #[.agg #[.string ⟨#[]⟩, .string ⟨#[]⟩, .slice none 0 0, .int .i64 0], .bool false])) (by simp [results, Tryz.results9, go_sem, *]) rfl ?_
    exact ⟨_, rfl, owX_nil _ _ _, by repeat' (first | (with_reducible exact HX.out) | (with_reducible refine Below.setCell ?_ ?_ _) | (with_reducible refine Below.alloc ?_ ?_ _) | (with_reducible refine Below.drew ?_) | (with_reducible refine bo_drewN _ ?_) | omega | (simp; done) | (simp; omega))⟩
  rw [if_pos hz0] at hlk
  obtain ⟨k, hk, hzk, _⟩ := at_found hz0
  have HE : Hid (((⟨an, ak, al, aq⟩ : TenantD), ab) = (tn L k, true)) := by show _ = _; rw [← HA.out]; unfold tenantV; rw [if_pos ⟨h0, hz0⟩, hzk]; simp
  rw [hzk] at hlk
  simp only [Option.getD_some, Option.isSome_some] at hlk
  obtain ⟨e1, rfl⟩ := Prod.mk.inj HE.out
  have hkI : (k : Int) < L.length := by omega
  have HOK := hide ((okTs_iff.1 h0).2 k hk).1
  obtain ⟨b, o, als, pls, rfl, hbw, c0, c1, c2, c3, f0, f1, hls, q1, q2⟩ := ten_at (HR.out.new HX.out) hk
  rw [← e1] at c0 c1 c2 c3 f0 f1 hls q1 HOK
  dsimp only at c0 c1 c2 c3 f0 f1 hls q1
  have HOK2 := okTn_iff.1 HOK.out
  dsimp only at HOK2
  have hAp := fun w h => implTApart ⟨an, ak, al, aq⟩ als pls w h (by have := name_small HOK2.1; dsimp only; omega) (by have := inB_true HOK2.2.1; dsimp only; omega) HOK2.2.2.1 HOK2.2.2.2.2
  dsimp only at hAp
  have HLS := hide hls
  clear h0 HE e1 hzk HA hz0 HOK HOK2 hls f0 f1
  go_wp2_with fail
  refine (hAp _ HLS.out).mono ?_; rintro e w4 ⟨a4, p4, rfl, ho4, hb4⟩
  have hs4 := RX.out.lt
  replace RX := hide (RX.out.new hb4)
  replace HX := hide (bchain HX.out hb4)
  have HO4 := hide ho4
  have hwl0 := RX.out.lt
  clear ho4 hAp HLS c0 c1 c2 c3
  have r0 := RowIs.cell (j := 0) RX.out rfl; have r1 := RowIs.cell (j := 1) RX.out rfl; have r2 := RowIs.cell (j := 2) RX.out rfl; have r3 := RowIs.cell (j := 3) RX.out rfl; have r9 := fun j => RowIs.frozen RX.out j; have r8 := RX.out.lt
  go_wp2_with fail
  refine bodyPost_ret (v := (.tuple #[.agg #[.string an, .string ak, .slice a4 al.length p4, .int .i64 aq], .bool true])) (by simp [results, Tryz.results9, go_sem, *]) rfl ?_
  refine ⟨_, rfl, ?_, by repeat' (first | (with_reducible exact HX.out) | (with_reducible refine Below.setCell ?_ ?_ _) | (with_reducible refine Below.alloc ?_ ?_ _) | (with_reducible refine Below.drew ?_) | (with_reducible refine bo_drewN _ ?_) | omega | (simp; done) | (simp; omega))⟩
  refine (OwX.wide (lo := w3.heap.size) (hi := w4.heap.size) (lo' := w.heap.size) (hi' := w4.heap.size) ?_ (by omega) (Nat.le_refl _)).top
  (repeat' (first | (with_reducible exact HO4.out) | (with_reducible refine OwX.far ?_ _ _ ?_) | (simp; done) | (simp; omega)))
set_option maxHeartbeats 4000000 in
theorem implReaches (L : List TenantD) (target : ByteArray) (v : Value) (w : World) (hr : RdR tenantS w v L) (htg : target.size ≤ maxLen) :
    Calls Tryz.prog 11 #[v, .string target] w fun x w' => ∃ v', x = .returned v' ∧ OwX strS w' w.heap.size w'.heap.size v' (reachV L target) ∧ Below w.heap.size w w' := by
  obtain ⟨ad, cap, rfl, h1, h2⟩ := hr.form
  obtain ⟨A, hA⟩ : ∃ A, reachV L target = A := ⟨_, rfl⟩
  rw [hA]
  have HA := hide hA
  have HR := hide hr
  clear hA
  have hT := implTenantsOk L (.slice ad L.length cap) w hr
  clear hr
  cases h0 : okTs L
  · rw [h0] at hT
    have HV : Hid (A = []) := by show A = _; rw [← HA.out]; unfold reachV; rw [if_neg (by rw [h0]; simp)]
    go_enter Tryz.func11, Tryz.ntmps11
    go_wp2_with fail
    refine hT.mono ?_; rintro e w1 ⟨rfl, hb1⟩
    have HB1 := hide hb1
    clear hb1 hT
    go_wp2_with fail
    go_ret
    refine ⟨_, rfl, ?_, HB1.out⟩
    rw [HV.out]
    exact owX_nil _ _ _
  rw [h0] at hT
  have hl8 := (okTs_iff.1 h0).1
  have HNM : Hid (∀ k, k < L.length → (tn L k).nm.size ≤ 20) := fun k hk => name_small (okTn_iff.1 ((okTs_iff.1 h0).2 k hk).1).1
  have HV : Hid (A = reachK L target L.length) := by show A = _; rw [← HA.out]; unfold reachV reachK; rw [if_pos h0, List.take_length]
  go_enter Tryz.func11, Tryz.ntmps11
  go_wp2_with fail
  refine hT.mono ?_; rintro e w1 ⟨rfl, hb1⟩
  have HB1 := hide hb1
  clear hb1 hT h0 HA
  go_wp2_with fail
  go_loopw [5, 7, 13] (fun s _ i wr => ∃ (k : Nat) (R : List ByteArray) (ab : Option Addr) (pb : Nat), i = .int .i64 (k : Int) ∧ s = .slice ab R.length pb ∧ k ≤ L.length ∧ R.length ≤ k ∧ Hid (R = reachK L target k) ∧ Hid (∀ y ∈ R, y.size ≤ 9223372036854775807) ∧ Hid (wr.ownsRow w.heap.size 9 1 (.slice ab R.length pb) R.length (R.map Value.string)) ∧ Hid (Below w.heap.size w wr)) (fun _ _ i _ => L.length - (intOf i).toNat)
  case atStart => exact ⟨0, [], none, 0, rfl, rfl, Nat.zero_le _, Nat.le_refl _, hide rfl, by show ∀ y ∈ [], _; simp, World.ownsRow_nil _ _ _ _, HB1⟩
  case round =>
    clear HB1
    obtain ⟨k, R, ab, pb, rfl, rfl, hk, hRk, HRR, HSM, HO, HB⟩ := hrel
    by_cases hlt : k < L.length
    rotate_left
    · have hltI : ¬ (k : Int) < L.length := by omega
      obtain rfl : k = L.length := by omega
      go_wp2_with fail
      go_ret
      refine ⟨_, rfl, ?_, HB.out⟩
      rw [HV.out, ← HRR.out]
      exact strs_ow HO.out HSM.out
    have hltI : (k : Int) < L.length := by omega
    obtain ⟨b, o, al, pl, rfl, hbw, c0, c1, c2, c3, f0, _, hls, q1, q2⟩ := ten_at (HR.out.new HB.out) hlt
    have HST := hide (reachK_step (target := target) hlt)
    have hns := HNM.out k hlt
    generalize tn L k = x at *
    obtain ⟨xn, xk, xl, xq⟩ := x
    dsimp only at c0 c1 c2 c3 f0 hls q1 q2 HST hns
    have hbe : Below wr.heap.size wr (wr.alloc (.cells #[.string xn, .string xk, .slice al xl.length pl, .int .i64 xq] 32)) := (Below.refl _ _).alloc (Nat.le_refl _) _
    have HE : Hid (RowIs (wr.alloc (.cells #[.string xn, .string xk, .slice al xl.length pl, .int .i64 xq] 32)) wr.heap.size 32 [.string xn, .string xk, .slice al xl.length pl, .int .i64 xq]) := rowIs_new wr _ _
    go_upto_region 7 with fail
    generalize hg1 : wr.alloc (.cells #[.string xn, .string xk, .slice al xl.length pl, .int .i64 xq] 32) = X at *
    clear hg1
    have HLS := hide (hls.new hbe)
    have hLd := fun w h => implListed xl target (.slice al xl.length pl) w h (fun s hs => by have := rd_small hls s hs; unfold maxLen; omega) htg
    replace HO := hide (owns_new HO.out hbe)
    replace HB := hide (bchain HB.out hbe)
    have hne : (Value.slice ab R.length pb).ownBlock ≠ some wr.heap.size ∨ True := .inr trivial
    generalize wr.heap.size = go at *
    clear hls c0 c1 c2 c3 hbe hbw hne
    have e0 := HE.out.cell (j := 0) rfl
    have e2 := HE.out.cell (j := 2) rfl
    have el := HE.out.lt
    cases h7 : listV xl target
    · rw [h7] at hLd
      have HR2 : Hid (R = reachK L target (k + 1)) := by show R = _; rw [HST.out, if_neg (by rw [h7]; simp)]; exact HRR.out
      go_wp2_with fail
      refine (hLd _ (rd_strs HLS.out)).mono ?_; rintro e w6 ⟨rfl, hb6⟩
      have HO6 := hide (owns_new HO.out hb6)
      have HB6 := hide (bchain HB.out hb6)
      clear hb6 hLd HO HB HLS e0 e2 el
      go_wp2_with fail
      go_roundw
      case rel => exact ⟨k + 1, R, ab, pb, by go_num, rfl, by omega, by omega, HR2, HSM, HO6, HB6⟩
      case measure => simp [intOf]; omega
    · rw [h7] at hLd
      have HR2 : Hid (R ++ [xn] = reachK L target (k + 1)) := by show _ = _; rw [HST.out, if_pos h7, HRR.out]
      go_wp2_with fail
      refine (hLd _ (rd_strs HLS.out)).mono ?_; rintro e w6 ⟨rfl, hb6⟩
      replace HO := hide (owns_new HO.out hb6)
      replace HB := hide (bchain HB.out hb6)
      replace HE := hide (HE.out.new hb6)
      clear hb6 hLd HLS e0 e2 el
      have e0 := HE.out.cell (j := 0) rfl
      have el := HE.out.lt
      go_wp2_with fail
      refine (clone xn _ (by omega)).mono ?_; rintro e w5 ⟨rfl, hb5⟩
      replace HO := hide (owns_new HO.out hb5)
      replace HB := hide (bchain HB.out hb5)
      clear hb5 e0 el HE
      have hX : Below w5.heap.size w5 (w5.alloc (.cells #[.string xn] 9)) := (Below.refl _ _).alloc (Nat.le_refl _) _
      have hoX := owns_new HO.out hX
      have hrX : Reads (w5.alloc (.cells #[.string xn] 9)) (.slice (some ⟨w5.heap.size, 0, none⟩) 1 1) 1 1 [.string xn] := reads_of_owns (owns_lit w5 9 1 1 #[.string xn] rfl (by omega))
      have hbX := bchain HB.out hX
      have hsX := hbX.size
      have HSM2 : Hid (∀ y ∈ R ++ [xn], y.size ≤ 9223372036854775807) := fun y hy => by
        rcases List.mem_append.1 hy with h | h
        · exact HSM.out y h
        · simp at h; subst h; exact f0
      clear hX HB HO
      go_wp2_with (at_builtin; go_must (refine wpList_app _ (by rfl) _ _ 30 (by rfl) 9 (.string ⟨#[]⟩) 1 16 Tryz.underlying30 (by kernel_rfl) rfl (by decide) w.heap.size _ R.length (R.map Value.string) (by rfl) hoX _ 1 [.string xn] (by rfl) hrX (sv_one15 [xn]) (by omega) (by decide) hsX ?_))
      intro ad7 cp7 w7 hown7 hg7 hat7
      have HB7 := hide (hbX.grown hg7 hbX.size (fun k hk => (hoX.lt k hk).1))
      have HO7 : Hid (w7.ownsRow w.heap.size 9 1 (.slice ad7 (R ++ [xn]).length cp7) (R ++ [xn]).length ((R ++ [xn]).map Value.string)) := by show World.ownsRow _ _ _ _ _ _ _; rw [List.map_append, List.length_append]; exact hown7
      clear hown7 hg7 hat7 hoX hrX hbX hsX
      go_wp2_with fail
      go_roundw
      case rel => exact ⟨k + 1, R ++ [xn], ad7, cp7, by go_num, by simp, by omega, by simp; omega, HR2, HSM2, HO7, HB7⟩
      case measure => simp [intOf]; omega
theorem admit_way {L : List TenantD} {token target : ByteArray} {now op : Int} (h0 : okTs L = true) (h3 : timeB now = true) (h4 : ¬ op < 0) : admitV L token target now op = if (readV token).2.2 = false ∨ (tenantV L (readV token).1).2 = false ∨ signV token (tenantV L (readV token).1).1.key now = false then 401
  else if listV (tenantV L (readV token).1).1.list target = false then 403
  else if (tenantV L (readV token).1).1.quota ≤ op then 429 else 200 := by
  unfold admitV
  rw [if_neg (show ¬ (okTs L = false ∨ timeB now = false ∨ op < 0) by rw [h0, h3]; simp; omega)]
  have htv : tenantV L (readV token).1 = if 0 ≤ atV L (readV token).1 then (tn L (atV L (readV token).1).toNat, true) else (zTn, false) := by unfold tenantV; simp [h0]
  rw [htv]
  by_cases c : 0 ≤ atV L (readV token).1
  · have c2 : ¬ atV L (readV token).1 < 0 := by omega
    rw [if_pos c]
    by_cases hr : (readV token).2.2 = false
    · rw [if_pos (.inl hr), if_pos (.inl hr)]
    · by_cases hs : signV token (tn L (atV L (readV token).1).toNat).key now = false
      · rw [if_pos (.inr (.inr hs)), if_pos (.inr (.inr hs))]
      · have n1 : ¬ ((readV token).2.2 = false ∨ atV L (readV token).1 < 0 ∨ signV token (tn L (atV L (readV token).1).toNat).key now = false) := by rintro (h | h | h) <;> contradiction
        have n2 : ¬ ((readV token).2.2 = false ∨ ((tn L (atV L (readV token).1).toNat, true) : TenantD × Bool).2 = false ∨ signV token (tn L (atV L (readV token).1).toNat).key now = false) := by
          rintro (h | h | h)
          · contradiction
          · cases h
          · contradiction
        rw [if_neg n1, if_neg n2]
  · have c2 : atV L (readV token).1 < 0 := by omega
    rw [if_neg c, if_pos (.inr (.inl c2)), if_pos (.inr (.inl rfl))]
set_option maxHeartbeats 4000000 in
theorem implAdmitted (L : List TenantD) (token target : ByteArray) (now op : Int) (v : Value) (w : World) (hr : RdR tenantS w v L) (hL : L.length ≤ 1048576) (ht : token.size ≤ 2000000) (htg : target.size ≤ maxLen) (ht0 : TabV w) (he0 : ErrV w) :
    Calls Tryz.prog 7 #[v, .string token, .string target, .int .i64 now, .int .i64 op] w fun x w' => x = .returned (.int .i64 (admitV L token target now op)) ∧ Below w.heap.size w w' := by
  obtain ⟨ad, cap, rfl, h1, h2⟩ := hr.form
  obtain ⟨A, hA⟩ : ∃ A, admitV L token target now op = A := ⟨_, rfl⟩
  rw [hA]
  have HA : Hid (admitV L token target now op = A) := hA
  have HR := hide hr
  have HTB := hide ht0
  have HER := hide he0
  clear hA hr ht0 he0
  have HBW := hide (Below.refl w.heap.size w)
  have hT := fun w h => implTenantsOk L (.slice ad L.length cap) w h
  have hM := fun w => implWithin now 0 1000000 w
  have hti : timeB now = inB now 0 1000000 := rfl
  cases h0 : okTs L
  · rw [h0] at hT
    have HV : Hid (A = 500) := by show A = _; rw [← HA.out]; unfold admitV; rw [if_pos (.inl h0)]
    go_enter Tryz.func7, Tryz.ntmps7
    go_wp2_with fail
    refine (hT _ (HR.out.new HBW.out)).mono ?_; rintro e w1 ⟨rfl, hb⟩; replace HBW := hide (bchain HBW.out hb); clear hb
    go_wp2_with fail
    go_ret; exact ⟨by rw [HV.out]; rfl, HBW.out⟩
  rw [h0] at hT
  cases h3 : inB now 0 1000000
  · rw [h3] at hM
    have HV : Hid (A = 500) := by show A = _; rw [← HA.out]; unfold admitV; rw [if_pos (.inr (.inl (by rw [hti]; exact h3)))]
    go_enter Tryz.func7, Tryz.ntmps7
    go_wp2_with fail
    refine (hT _ (HR.out.new HBW.out)).mono ?_; rintro e w1 ⟨rfl, hb⟩; replace HBW := hide (bchain HBW.out hb); clear hb
    go_wp2_with fail
    refine (hM _).mono ?_; rintro e w2 ⟨rfl, hsame⟩; obtain rfl := hsame.symm; clear hsame
    go_wp2_with fail
    go_ret; exact ⟨by rw [HV.out]; rfl, HBW.out⟩
  rw [h3] at hM
  rw [h3] at hti
  by_cases h4 : op < 0
  · have HV : Hid (A = 500) := by show A = _; rw [← HA.out]; unfold admitV; rw [if_pos (.inr (.inr h4))]
    go_enter Tryz.func7, Tryz.ntmps7
    go_wp2_with fail
    refine (hT _ (HR.out.new HBW.out)).mono ?_; rintro e w1 ⟨rfl, hb⟩; replace HBW := hide (bchain HBW.out hb); clear hb
    go_wp2_with fail
    refine (hM _).mono ?_; rintro e w2 ⟨rfl, hsame⟩; obtain rfl := hsame.symm; clear hsame
    go_wp2_with fail
    go_ret; exact ⟨by rw [HV.out]; rfl, HBW.out⟩
  have HA2 : Hid ((if (readV token).2.2 = false ∨ (tenantV L (readV token).1).2 = false ∨ signV token (tenantV L (readV token).1).1.key now = false then 401
  else if listV (tenantV L (readV token).1).1.list target = false then 403
  else if (tenantV L (readV token).1).1.quota ≤ op then 429 else 200) = A) := by
    show _ = A
    rw [← HA.out]
    exact (admit_way h0 hti h4).symm
  have hRd := fun w ht0 he0 => implReadToken token w ht ht0 he0
  obtain ⟨⟨rn, ru, rb⟩, hrv⟩ : ∃ x, readV token = x := ⟨_, rfl⟩
  rw [hrv] at hRd HA2
  dsimp only at hRd HA2
  have hTo := fun w h => implTenantOf L rn (.slice ad L.length cap) w h hL
  obtain ⟨⟨⟨xn, xk, xl, xq⟩, xb⟩, hxv⟩ : ∃ x, tenantV L rn = x := ⟨_, rfl⟩
  have hsz : xn.size ≤ 9223372036854775807 ∧ xk.size ≤ 1000 := by
    unfold tenantV at hxv
    split at hxv
    · rename_i c
      obtain ⟨k, hk, hzk, _⟩ := at_found c.2
      rw [hzk, Int.toNat_natCast] at hxv
      have e1 := (Prod.mk.inj hxv).1
      have hok := okTn_iff.1 ((okTs_iff.1 h0).2 k hk).1
      rw [e1] at hok
      have q1 := name_small hok.1
      have q2 := inB_true hok.2.1
      dsimp only at q1 q2
      omega
    · have e1 := (Prod.mk.inj hxv).1
      simp only [zTn, TenantD.mk.injEq] at e1
      obtain ⟨rfl, rfl, _⟩ := e1
      decide
  rw [hxv] at hTo HA2
  dsimp only at hTo HA2
  clear hrv hxv HA h0 h3 hti
  go_enter Tryz.func7, Tryz.ntmps7
  go_wp2_with fail
  refine (hT _ (HR.out.new HBW.out)).mono ?_; rintro e w1 ⟨rfl, hb⟩; replace HBW := hide (bchain HBW.out hb); clear hb
  go_wp2_with fail
  refine (hM _).mono ?_; rintro e w2 ⟨rfl, hsame⟩; obtain rfl := hsame.symm; clear hsame
  go_wp2_with fail
  refine (hRd _ (HTB.out.new HBW.out) (HER.out.new HBW.out)).mono ?_; rintro e w3 ⟨rfl, hb⟩; replace HBW := hide (bchain HBW.out hb); clear hb
  go_wp2_with fail
  refine (hTo _ (HR.out.new HBW.out)).mono ?_; rintro e w4 ⟨vl, rfl, ho4, hb4⟩
  obtain ⟨a4, p4, rfl, q1, q2⟩ := ho4.form
  replace HBW := hide (bchain HBW.out hb4)
  have hbX : Below w4.heap.size w4 (w4.alloc (.cells #[.string xn, .string xk, .slice a4 xl.length p4, .int .i64 xq] 32)) := (Below.refl _ _).alloc (Nat.le_refl _) _
  have HX := hide (rowIs_new w4 32 [.string xn, .string xk, .slice a4 xl.length p4, .int .i64 xq])
  have HLS := hide (ho4.rd.new hbX)
  clear hT hM hRd hTo hb4 ho4
  go_upto_region 5 with fail
  replace HBW := hide (bchain HBW.out hbX)
  generalize w4.alloc (.cells #[.string xn, .string xk, .slice a4 xl.length p4, .int .i64 xq] 32) = W at *
  generalize w4.heap.size = gx at *
  clear hbX
  have hSg := fun w ht0 he0 => implSigned token xk now w ht (by unfold maxLen; omega) ht0 he0
  cases rb
  · have HV : Hid (A = 401) := by show A = _; rw [← HA2.out, if_pos (.inl rfl)]
    go_wp2_with fail
    go_ret; exact ⟨by rw [HV.out]; rfl, HBW.out⟩
  cases xb
  · have HV : Hid (A = 401) := by show A = _; rw [← HA2.out, if_pos (.inr (.inl rfl))]
    go_wp2_with fail
    go_ret; exact ⟨by rw [HV.out]; rfl, HBW.out⟩
  have x1 := HX.out.cell (j := 1) rfl
  have xw := HX.out.lt
  cases h6 : signV token xk now
  · rw [h6] at hSg
    have HV : Hid (A = 401) := by show A = _; rw [← HA2.out, if_pos (.inr (.inr h6))]
    go_wp2_with fail
    refine (hSg _ (HTB.out.new HBW.out) (HER.out.new HBW.out)).mono ?_; rintro e w5 ⟨rfl, hb⟩; replace HBW := hide (bchain HBW.out hb); clear hb
    go_wp2_with fail
    go_ret; exact ⟨by rw [HV.out]; rfl, HBW.out⟩
  rw [h6] at hSg HA2
  go_wp2_with fail
  refine (hSg _ (HTB.out.new HBW.out) (HER.out.new HBW.out)).mono ?_; rintro e w5 ⟨rfl, hb5⟩
  replace HBW := hide (bchain HBW.out hb5)
  replace HX := hide (HX.out.new hb5)
  replace HLS := hide (HLS.out.new hb5)
  have hLd := fun w h => implListed xl target (.slice a4 xl.length p4) w h (fun s hs => by have := rd_small HLS.out s hs; unfold maxLen; omega) htg
  clear hb5 x1 xw hSg
  have x2 := HX.out.cell (j := 2) rfl
  have xw := HX.out.lt
  cases h7 : listV xl target
  · rw [h7] at hLd
    have HV : Hid (A = 403) := by show A = _; rw [← HA2.out, if_neg (by first | (simp; done) | (simp; omega)), if_pos h7]
    go_wp2_with fail
    refine (hLd _ (rd_strs HLS.out)).mono ?_; rintro e w6 ⟨rfl, hb⟩; replace HBW := hide (bchain HBW.out hb); clear hb
    go_wp2_with fail
    go_ret; exact ⟨by rw [HV.out]; rfl, HBW.out⟩
  rw [h7] at hLd
  go_wp2_with fail
  refine (hLd _ (rd_strs HLS.out)).mono ?_; rintro e w6 ⟨rfl, hb6⟩
  replace HBW := hide (bchain HBW.out hb6)
  replace HX := hide (HX.out.new hb6)
  clear hb6 x2 xw hLd HLS
  have x3 := HX.out.cell (j := 3) rfl
  have xw := HX.out.lt
  by_cases h8 : xq ≤ op
  · have HV : Hid (A = 429) := by show A = _; rw [← HA2.out, if_neg (by first | (simp; done) | (simp; omega)), if_neg (by rw [h7]; simp), if_pos h8]
    go_wp2_with fail
    go_ret; exact ⟨by rw [HV.out]; rfl, HBW.out⟩
  · have HV : Hid (A = 200) := by show A = _; rw [← HA2.out, if_neg (by first | (simp; done) | (simp; omega)), if_neg (by rw [h7]; simp), if_neg h8]
    have h8' : op < xq := by omega
    go_wp2_with fail
    go_ret; exact ⟨by rw [HV.out]; rfl, HBW.out⟩
end Go.Proofs.YtfemmnhfllbgjaaGreatDoor
