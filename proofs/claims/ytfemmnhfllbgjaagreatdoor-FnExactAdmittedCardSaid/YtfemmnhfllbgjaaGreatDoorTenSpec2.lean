/- Chapter 15's model: who is found, who is admitted, who reaches a place. -/
import Derived.Test.YtfemmnhfllbgjaaGreatDoorTenSpec1
import Derived.Test.YtfemmnhfllbgjaaGreatDoorAppRows
import Derived.Test.YtfemmnhfllbgjaaGreatDoorRowNew
import Derived.Deep.DeepMust

namespace Go.Proofs.YtfemmnhfllbgjaaGreatDoor
open Go.RowKit
set_option maxRecDepth 100000
set_option linter.unusedSimpArgs false
set_option linter.unusedVariables false
/-- One tenant of a row that is read: its cells. -/
theorem ten_at {w : World} {ad : Option Addr} {n cap k : Nat} {L : List TenantD} (h : RdR tenantS w (.slice ad n cap) L) (hk : k < L.length) : ∃ b o al pl, ad = some ⟨b, o, none⟩ ∧ b < w.heap.size ∧ w.cell? ⟨b, o + k * 4, none⟩ = some (.string (tn L k).nm) ∧ w.cell? ⟨b, o + k * 4 + 1, none⟩ = some (.string (tn L k).key) ∧ w.cell? ⟨b, o + k * 4 + 2, none⟩ = some (.slice al (tn L k).list.length pl) ∧ w.cell? ⟨b, o + k * 4 + 3, none⟩ = some (.int .i64 (tn L k).quota) ∧ (tn L k).nm.size ≤ 9223372036854775807 ∧ (tn L k).key.size ≤ 9223372036854775807 ∧ RdR strS w (.slice al (tn L k).list.length pl) (tn L k).list ∧ (tn L k).list.length ≤ pl ∧ pl ≤ 9223372036854775807 := by
  rw [tn_get hk]
  obtain ⟨b, o, cs, rfl, hb, ⟨vl, rfl, f0, f1, hls⟩, hc⟩ := h.at k hk
  obtain ⟨al, pl, rfl, q1, q2⟩ := hls.form
  exact ⟨b, o, al, pl, rfl, hb, hc 0 _ rfl, hc 1 _ rfl, hc 2 _ rfl, hc 3 _ rfl, f0, f1, hls, q1, q2⟩
set_option maxHeartbeats 1000000 in
theorem specAtT (L : List TenantD) (name : ByteArray) (v : Value) (w : World) (hr : RdR tenantS w v L) (hL : L.length ≤ 1048576) : Calls Tryz.prog 35 #[v, .string name] w fun x w' => x = .returned (.int .i64 (atV L name)) ∧ Below w.heap.size w w' := by
  obtain ⟨ad, cap, rfl, h1, h2⟩ := hr.form
  obtain ⟨A, hA⟩ : ∃ A, atV L name = A := ⟨_, rfl⟩
  rw [hA]
  have HA := hide hA
  have HR := hide hr
  clear hA hr
  go_enter Tryz.func35, Tryz.ntmps35
  go_wp2_with fail
  go_loop [5] (fun i => ∃ k : Nat, i = .int .i64 (k : Int) ∧ k ≤ L.length ∧ Hid (atF name k (L.drop k) = A)) (fun i => L.length - (intOf i).toNat)
  case atStart => exact ⟨0, rfl, Nat.zero_le _, HA⟩
  case round =>
    obtain ⟨k, rfl, hk, HK⟩ := hrel
    by_cases hlt : k < L.length
    · have hltI : (k : Int) < L.length := by omega
      obtain ⟨b, o, al, pl, rfl, hbw, c0, _⟩ := ten_at HR.out hlt
      have hd : L.drop k = L[k] :: L.drop (k + 1) := List.drop_eq_getElem_cons hlt
      have HK2 : Hid ((if (tn L k).nm = name then (k : Int) else atF name (k + 1) (L.drop (k + 1))) = A) := by show _ = A; rw [← HK.out, hd, tn_get hlt]; rfl
      clear hd
      generalize (tn L k).nm = z at *
      have he := str_eq z name
      by_cases hz : z = name
      · rw [decide_eq_true hz] at he
        have HV : Hid (A = (k : Int)) := by show A = _; rw [← HK2.out, if_pos hz]
        clear hz
        go_wp2_with fail
        go_ret
        exact ⟨by rw [HV.out]; rfl, Below.refl _ _⟩
      · rw [decide_eq_false hz] at he
        have HV : Hid (atF name (k + 1) (L.drop (k + 1)) = A) := by show _ = A; rw [← HK2.out, if_neg hz]
        clear hz
        go_wp2_with fail
        go_round
        case rel => exact ⟨k + 1, by go_num, by omega, HV⟩
        case measure => simp [intOf]; omega
    · have hltI : ¬ (k : Int) < L.length := by omega
      have HV : Hid (A = -1) := by show A = _; rw [← HK.out, List.drop_of_length_le (by omega)]; rfl
      go_wp2_with fail
      go_ret
      exact ⟨by rw [HV.out]; rfl, Below.refl _ _⟩
theorem specTimeB (t : Int) (w : World) : Calls Tryz.prog 37 #[.int .i64 t] w fun e w' => e = .returned (.bool (timeB t)) ∧ Below w.heap.size w w' := (specTime14 t w).mono fun e w' ⟨h1, h2⟩ => ⟨h1, by subst h2; exact Below.refl _ _⟩
set_option maxHeartbeats 2000000 in
theorem specAdmitted (L : List TenantD) (token target : ByteArray) (now op : Int) (v : Value) (w : World) (hr : RdR tenantS w v L) (hL : L.length ≤ 1048576) (ht : token.size ≤ 2000000) (htg : target.size ≤ maxLen) :
    Calls Tryz.prog 14 #[v, .string token, .string target, .int .i64 now, .int .i64 op] w fun x w' => x = .returned (.int .i64 (admitV L token target now op)) ∧ Below w.heap.size w w' := by
  obtain ⟨ad, cap, rfl, h1, h2⟩ := hr.form
  obtain ⟨A, hA⟩ : ∃ A, admitV L token target now op = A := ⟨_, rfl⟩
  rw [hA]
  have HA : Hid (admitV L token target now op = A) := hA
  have HR := hide hr
  clear hA hr
  have HBW := hide (Below.refl w.heap.size w)
  have hT := fun w h => specTenantsOk L (.slice ad L.length cap) w h
  have hM := fun w => specTimeB now w
  cases h0 : okTs L
  · rw [h0] at hT
    have HV : Hid (A = 500) := by show A = _; rw [← HA.out]; unfold admitV; rw [if_pos (.inl h0)]
    go_enter Tryz.func14, Tryz.ntmps14
    go_wp2_with fail
    refine (hT _ (HR.out.new HBW.out)).mono ?_; rintro e w1 ⟨rfl, hb⟩; replace HBW := hide (bchain HBW.out hb); clear hb
    go_wp2_with fail
    go_ret; exact ⟨by rw [HV.out]; rfl, HBW.out⟩
  rw [h0] at hT
  cases h3 : timeB now
  · rw [h3] at hM
    have HV : Hid (A = 500) := by show A = _; rw [← HA.out]; unfold admitV; rw [if_pos (.inr (.inl h3))]
    go_enter Tryz.func14, Tryz.ntmps14
    go_wp2_with fail
    refine (hT _ (HR.out.new HBW.out)).mono ?_; rintro e w1 ⟨rfl, hb⟩; replace HBW := hide (bchain HBW.out hb); clear hb
    go_wp2_with fail
    refine (hM _).mono ?_; rintro e w2 ⟨rfl, hb⟩; replace HBW := hide (bchain HBW.out hb); clear hb
    go_wp2_with fail
    go_ret; exact ⟨by rw [HV.out]; rfl, HBW.out⟩
  rw [h3] at hM
  by_cases h4 : op < 0
  · have HV : Hid (A = 500) := by show A = _; rw [← HA.out]; unfold admitV; rw [if_pos (.inr (.inr h4))]
    go_enter Tryz.func14, Tryz.ntmps14
    go_wp2_with fail
    refine (hT _ (HR.out.new HBW.out)).mono ?_; rintro e w1 ⟨rfl, hb⟩; replace HBW := hide (bchain HBW.out hb); clear hb
    go_wp2_with fail
    refine (hM _).mono ?_; rintro e w2 ⟨rfl, hb⟩; replace HBW := hide (bchain HBW.out hb); clear hb
    go_wp2_with fail
    go_ret; exact ⟨by rw [HV.out]; rfl, HBW.out⟩
  have HA2 : Hid ((if (readV token).2.2 = false ∨ atV L (readV token).1 < 0 ∨ signV token (tn L (atV L (readV token).1).toNat).key now = false then 401
  else if listV (tn L (atV L (readV token).1).toNat).list target = false then 403
  else if (tn L (atV L (readV token).1).toNat).quota ≤ op then 429 else 200) = A) := by
    show _ = A
    rw [← HA.out]
    unfold admitV
    exact (if_neg (by rw [h0, h3]; simp; omega)).symm
  have hRd := fun w => specReadToken token w ht
  obtain ⟨⟨rn, ru, rb⟩, hrv⟩ : ∃ x, readV token = x := ⟨_, rfl⟩
  rw [hrv] at hRd HA2
  dsimp only at hRd HA2
  clear hrv HA h0 h3
  have hAt := fun w h => specAtT L rn (.slice ad L.length cap) w h hL
  cases rb
  · have HV : Hid (A = 401) := by show A = _; rw [← HA2.out, if_pos (.inl rfl)]
    go_enter Tryz.func14, Tryz.ntmps14
    go_wp2_with fail
    refine (hT _ (HR.out.new HBW.out)).mono ?_; rintro e w1 ⟨rfl, hb⟩; replace HBW := hide (bchain HBW.out hb); clear hb
    go_wp2_with fail
    refine (hM _).mono ?_; rintro e w2 ⟨rfl, hb⟩; replace HBW := hide (bchain HBW.out hb); clear hb
    go_wp2_with fail
    refine (hRd _).mono ?_; rintro e w3 ⟨rfl, hb⟩; replace HBW := hide (bchain HBW.out hb); clear hb
    go_wp2_with fail
    refine (hAt _ (HR.out.new HBW.out)).mono ?_; rintro e w4 ⟨rfl, hb⟩; replace HBW := hide (bchain HBW.out hb); clear hb
    go_wp2_with fail
    go_ret; exact ⟨by rw [HV.out]; rfl, HBW.out⟩
  by_cases h5 : atV L rn < 0
  · have HV : Hid (A = 401) := by show A = _; rw [← HA2.out, if_pos (.inr (.inl h5))]
    generalize atV L rn = z at *
    go_enter Tryz.func14, Tryz.ntmps14
    go_wp2_with fail
    refine (hT _ (HR.out.new HBW.out)).mono ?_; rintro e w1 ⟨rfl, hb⟩; replace HBW := hide (bchain HBW.out hb); clear hb
    go_wp2_with fail
    refine (hM _).mono ?_; rintro e w2 ⟨rfl, hb⟩; replace HBW := hide (bchain HBW.out hb); clear hb
    go_wp2_with fail
    refine (hRd _).mono ?_; rintro e w3 ⟨rfl, hb⟩; replace HBW := hide (bchain HBW.out hb); clear hb
    go_wp2_with fail
    refine (hAt _ (HR.out.new HBW.out)).mono ?_; rintro e w4 ⟨rfl, hb⟩; replace HBW := hide (bchain HBW.out hb); clear hb
    go_wp2_with fail
    go_ret; exact ⟨by rw [HV.out]; rfl, HBW.out⟩
  obtain ⟨k, hk, hz, _⟩ := at_found (show 0 ≤ atV L rn by omega)
  rw [hz] at hAt HA2
  rw [Int.toNat_natCast] at HA2
  have hkI : (k : Int) < L.length := by omega
  have hk0 : ¬ (k : Int) < 0 := by omega
  clear h5 hz
  go_enter Tryz.func14, Tryz.ntmps14
  go_wp2_with fail
  refine (hT _ (HR.out.new HBW.out)).mono ?_; rintro e w1 ⟨rfl, hb⟩; replace HBW := hide (bchain HBW.out hb); clear hb
  go_wp2_with fail
  refine (hM _).mono ?_; rintro e w2 ⟨rfl, hb⟩; replace HBW := hide (bchain HBW.out hb); clear hb
  go_wp2_with fail
  refine (hRd _).mono ?_; rintro e w3 ⟨rfl, hb⟩; replace HBW := hide (bchain HBW.out hb); clear hb
  go_wp2_with fail
  refine (hAt _ (HR.out.new HBW.out)).mono ?_; rintro e w4 ⟨rfl, hb⟩; replace HBW := hide (bchain HBW.out hb); clear hb
  clear hT hM hRd hAt
  obtain ⟨b, o, al, pl, rfl, hbw, c0, c1, c2, c3, f0, f1, hls, q1, q2⟩ := ten_at (HR.out.new HBW.out) hk
  generalize tn L k = x at *
  obtain ⟨xn, xk, xl, xq⟩ := x
  dsimp only at c0 c1 c2 c3 f0 f1 hls q1 q2 HA2
  have hSg := fun w => specSigned token xk now w ht (by unfold maxLen; omega)
  have HLS := hide hls
  clear hls
  cases h6 : signV token xk now
  · rw [h6] at hSg
    have HV : Hid (A = 401) := by show A = _; rw [← HA2.out, if_pos (.inr (.inr h6))]
    go_wp2_with fail
    refine (hSg _).mono ?_; rintro e w5 ⟨rfl, hb⟩; replace HBW := hide (bchain HBW.out hb); clear hb
    go_wp2_with fail
    go_ret; exact ⟨by rw [HV.out]; rfl, HBW.out⟩
  rw [h6] at hSg HA2
  go_wp2_with fail
  refine (hSg _).mono ?_; rintro e w5 ⟨rfl, hb5⟩
  have HBW5 := hide (bchain HBW.out hb5)
  have hls5 := HLS.out.new hb5
  have c25 := (hb5.cell (p := ⟨b, o + k * 4 + 2, none⟩) hbw).trans c2
  have c35 := (hb5.cell (p := ⟨b, o + k * 4 + 3, none⟩) hbw).trans c3
  have hbw5 := Nat.lt_of_lt_of_le hbw hb5.size
  have hLd := fun w h => specListed xl target (.slice al xl.length pl) w h (fun s hs => by have := rd_small hls5 s hs; unfold maxLen; omega) htg
  have HLS5 := hide hls5
  clear hb5 hls5 c0 c1 c2 c3 hSg HLS HBW
  cases h7 : listV xl target
  · rw [h7] at hLd
    have HV : Hid (A = 403) := by show A = _; rw [← HA2.out, if_neg (by first | (simp; done) | (simp; omega)), if_pos h7]
    go_wp2_with fail
    refine (hLd _ (rd_strs HLS5.out)).mono ?_; rintro e w6 ⟨rfl, hb6⟩
    have HBW := hide (bchain HBW5.out hb6)
    go_wp2_with fail
    go_ret; exact ⟨by rw [HV.out]; rfl, HBW.out⟩
  rw [h7] at hLd
  go_wp2_with fail
  refine (hLd _ (rd_strs HLS5.out)).mono ?_; rintro e w6 ⟨rfl, hb6⟩
  have HBW := hide (bchain HBW5.out hb6)
  have c36 := (hb6.cell (p := ⟨b, o + k * 4 + 3, none⟩) hbw5).trans c35
  have hbw6 := Nat.lt_of_lt_of_le hbw5 hb6.size
  clear hb6 c25 c35 hLd HBW5 HLS5
  by_cases h8 : xq ≤ op
  · have HV : Hid (A = 429) := by show A = _; rw [← HA2.out, if_neg (by first | (simp; done) | (simp; omega)), if_neg (by rw [h7]; simp), if_pos h8]
    go_wp2_with fail
    go_ret; exact ⟨by rw [HV.out]; rfl, HBW.out⟩
  · have HV : Hid (A = 200) := by show A = _; rw [← HA2.out, if_neg (by first | (simp; done) | (simp; omega)), if_neg (by rw [h7]; simp), if_neg h8]
    have h8' : op < xq := by omega
    go_wp2_with fail
    go_ret; exact ⟨by rw [HV.out]; rfl, HBW.out⟩
theorem sv_one15 (L : List ByteArray) : ∀ u ∈ L.map Value.string, u.oneCell' = true := by
  intro u hu
  obtain ⟨z, _, rfl⟩ := List.mem_map.1 hu
  rfl
def reachK (L : List TenantD) (target : ByteArray) (k : Nat) : List ByteArray := ((L.take k).filter (fun x => listV x.list target)).map (·.nm)
theorem reachK_step {L : List TenantD} {target : ByteArray} {k : Nat} (h : k < L.length) : reachK L target (k + 1) = if listV (tn L k).list target = true then reachK L target k ++ [(tn L k).nm] else reachK L target k := by
  unfold reachK
  rw [List.take_succ_eq_append_getElem h, List.filter_append, List.map_append, tn_get h]
  by_cases e : listV L[k].list target = true
  · rw [if_pos e]; simp [e]
  · rw [if_neg e]; simp [e]
theorem reachK_len (L : List TenantD) (target : ByteArray) (k : Nat) : (reachK L target k).length ≤ k := by
  unfold reachK
  rw [List.length_map]
  exact Nat.le_trans (List.length_filter_le _ _) (by rw [List.length_take]; omega)
set_option maxHeartbeats 2000000 in
theorem specReaches (L : List TenantD) (target : ByteArray) (v : Value) (w : World) (hr : RdR tenantS w v L) (htg : target.size ≤ maxLen) :
    Calls Tryz.prog 18 #[v, .string target] w fun x w' => ∃ v', x = .returned v' ∧ OwX strS w' w.heap.size w'.heap.size v' (reachV L target) ∧ Below w.heap.size w w' := by
  obtain ⟨ad, cap, rfl, h1, h2⟩ := hr.form
  obtain ⟨A, hA⟩ : ∃ A, reachV L target = A := ⟨_, rfl⟩
  rw [hA]
  have HA := hide hA
  have HR := hide hr
  clear hA hr
  have hT := fun w h => specTenantsOk L (.slice ad L.length cap) w h
  have hX : Below w.heap.size w (w.alloc (.cells #[] 9)) := (Below.refl _ _).alloc (Nat.le_refl _) _
  have HO0 : Hid ((w.alloc (.cells #[] 9)).ownsRow w.heap.size 9 1 (.slice (some ⟨w.heap.size, 0, none⟩) 0 0) 0 []) := owns_lit w 9 1 0 #[] rfl (by omega)
  have HX := hide hX
  clear hX
  cases h0 : okTs L
  · rw [h0] at hT
    have HV : Hid (A = []) := by show A = _; rw [← HA.out]; unfold reachV; rw [if_neg (by rw [h0]; simp)]
    go_enter Tryz.func18, Tryz.ntmps18
    go_wp2_with fail
    generalize w.alloc (.cells #[] 9) = W at *
    refine (hT _ (HR.out.new HX.out)).mono ?_; rintro e w1 ⟨rfl, hb1⟩
    have HO1 := hide (owns_new HO0.out hb1)
    have HB1 := hide (bchain HX.out hb1)
    clear hb1 hT HX HO0
    go_wp2_with fail
    go_ret
    refine ⟨_, rfl, ?_, HB1.out⟩
    rw [HV.out]
    exact strs_ow HO1.out (by simp)
  rw [h0] at hT
  have hl8 := (okTs_iff.1 h0).1
  have HV : Hid (A = reachK L target L.length) := by show A = _; rw [← HA.out]; unfold reachV reachK; rw [if_pos h0, List.take_length]
  go_enter Tryz.func18, Tryz.ntmps18
  go_wp2_with fail
  generalize w.alloc (.cells #[] 9) = W at *
  refine (hT _ (HR.out.new HX.out)).mono ?_; rintro e w1 ⟨rfl, hb1⟩
  have HO1 := hide (owns_new HO0.out hb1)
  have HB1 := hide (bchain HX.out hb1)
  clear hb1 hT HX HO0 h0 HA
  go_wp2_with fail
  go_loopw [5, 6] (fun s i wr => ∃ (k : Nat) (R : List ByteArray) (ab : Option Addr) (pb : Nat), i = .int .i64 (k : Int) ∧ s = .slice ab R.length pb ∧ k ≤ L.length ∧ R.length ≤ k ∧ Hid (R = reachK L target k) ∧ Hid (∀ y ∈ R, y.size ≤ 9223372036854775807) ∧ Hid (wr.ownsRow w.heap.size 9 1 (.slice ab R.length pb) R.length (R.map Value.string)) ∧ Hid (Below w.heap.size w wr)) (fun _ i _ => L.length - (intOf i).toNat)
  case atStart => exact ⟨0, [], _, _, rfl, rfl, Nat.zero_le _, Nat.le_refl _, hide rfl, by show ∀ y ∈ [], _; simp, HO1, HB1⟩
  case round =>
    clear HO1 HB1
    obtain ⟨k, R, ab, pb, rfl, rfl, hk, hRk, HRR, HSM, HO, HB⟩ := hrel
    by_cases hlt : k < L.length
    rotate_left
    · have hltI : ¬ (k : Int) < L.length := by omega
      obtain rfl : k = L.length := by omega
      go_wp2_with fail
      go_ret
      refine ⟨_, rfl, ?_, HB.out⟩
      rw [HV.out, ← HRR.out]
      exact strs_ow HO.out HSM.out
    have hltI : (k : Int) < L.length := by omega
    obtain ⟨b, o, al, pl, rfl, hbw, c0, _, c2, _, f0, _, hls, q1, q2⟩ := ten_at (HR.out.new HB.out) hlt
    have HST := hide (reachK_step (target := target) hlt)
    generalize tn L k = x at *
    obtain ⟨xn, xk, xl, xq⟩ := x
    dsimp only at c0 c2 f0 hls q1 q2 HST
    have hLd := fun w h => specListed xl target (.slice al xl.length pl) w h (fun s hs => by have := rd_small hls s hs; unfold maxLen; omega) htg
    have HLS := hide hls
    clear hls
    cases h7 : listV xl target
    · rw [h7] at hLd
      have HR2 : Hid (R = reachK L target (k + 1)) := by show R = _; rw [HST.out, if_neg (by rw [h7]; simp)]; exact HRR.out
      go_wp2_with fail
      refine (hLd _ (rd_strs HLS.out)).mono ?_; rintro e w6 ⟨rfl, hb6⟩
      have HO6 := hide (owns_new HO.out hb6)
      have HB6 := hide (bchain HB.out hb6)
      clear hb6 hLd HO HB HLS c0 c2
      go_wp2_with fail
      go_roundw
      case rel => exact ⟨k + 1, R, ab, pb, by go_num, rfl, by omega, by omega, HR2, HSM, HO6, HB6⟩
      case measure => simp [intOf]; omega
    · rw [h7] at hLd
      have HR2 : Hid (R ++ [xn] = reachK L target (k + 1)) := by show _ = _; rw [HST.out, if_pos h7, HRR.out]
      go_wp2_with fail
      refine (hLd _ (rd_strs HLS.out)).mono ?_; rintro e w6 ⟨rfl, hb6⟩
      have HO6 := hide (owns_new HO.out hb6)
      have HB6 := hide (bchain HB.out hb6)
      have c06 := (hb6.cell (p := ⟨b, o + k * 4, none⟩) hbw).trans c0
      have hbw6 := Nat.lt_of_lt_of_le hbw hb6.size
      clear hb6 hLd HO HB HLS c0 c2
      have hX : Below w6.heap.size w6 (w6.alloc (.cells #[.string xn] 9)) := (Below.refl _ _).alloc (Nat.le_refl _) _
      have hoX := owns_new HO6.out hX
      have hrX : Reads (w6.alloc (.cells #[.string xn] 9)) (.slice (some ⟨w6.heap.size, 0, none⟩) 1 1) 1 1 [.string xn] := reads_of_owns (owns_lit w6 9 1 1 #[.string xn] rfl (by omega))
      have hbX := bchain HB6.out hX
      have hsX := hbX.size
      have HSM2 : Hid (∀ y ∈ R ++ [xn], y.size ≤ 9223372036854775807) := fun y hy => by
        rcases List.mem_append.1 hy with h | h
        · exact HSM.out y h
        · simp at h; subst h; exact f0
      clear hX HB6 HO6
      go_wp2_with (at_builtin; go_must (refine wpList_app _ (by rfl) _ _ 30 (by rfl) 9 (.string ⟨#[]⟩) 1 16 Tryz.underlying30 (by kernel_rfl) rfl (by decide) w.heap.size _ R.length (R.map Value.string) (by rfl) hoX _ 1 [.string xn] (by rfl) hrX (sv_one15 [xn]) (by omega) (by decide) hsX ?_))
      intro ad7 cp7 w7 hown7 hg7 hat7
      have HB7 := hide (hbX.grown hg7 hbX.size (fun k hk => (hoX.lt k hk).1))
      have HO7 : Hid (w7.ownsRow w.heap.size 9 1 (.slice ad7 (R ++ [xn]).length cp7) (R ++ [xn]).length ((R ++ [xn]).map Value.string)) := by show World.ownsRow _ _ _ _ _ _ _; rw [List.map_append, List.length_append]; exact hown7
      clear hown7 hg7 hat7 hoX hrX hbX hsX c06
      go_wp2_with fail
      go_roundw
      case rel => exact ⟨k + 1, R ++ [xn], ad7, cp7, by go_num, by simp, by omega, by simp; omega, HR2, HSM2, HO7, HB7⟩
      case measure => simp [intOf]; omega
end Go.Proofs.YtfemmnhfllbgjaaGreatDoor
