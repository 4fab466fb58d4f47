/- Several small texts of one level, one behind the other. -/
import Derived.Test.YtfemmnhfllbgjaaGreatDoorQG10
import Derived.Test.YtfemmnhfllbgjaaGreatDoorQG3
import Derived.Test.YtfemmnhfllbgjaaGreatDoorQG5
import Derived.Deep.DeepMust
import Derived.Test.YtfemmnhfllbgjaaGreatDoorQG2
import Derived.Deep.Cut
import Derived.Deep.DeepCutAuto
import Derived.Test.YtfemmnhfllbgjaaGreatDoorQG7
import Derived.Test.YtfemmnhfllbgjaaGreatDoorQBase
import Derived.Test.YtfemmnhfllbgjaaGreatDoorQG9
/- Chapter 15's model: who is found, who is admitted, who reaches a place. -/
namespace Go.Proofs.YtfemmnhfllbgjaaGreatDoor
open Go.RowKit
set_option maxRecDepth 100000
set_option linter.unusedSimpArgs false
set_option linter.unusedVariables false
/-- One tenant of a row that is read: its cells. -/
theorem ten_at {w : World} {ad : Option Addr} {n cap k : Nat} {L : List TenantD} (h : RdR tenantS w (.slice ad n cap) L) (hk : k < L.length) : ∃ b o al pl, ad = some ⟨b, o, none⟩ ∧ b < w.heap.size ∧ w.cell? ⟨b, o + k * 4, none⟩ = some (.string (tn L k).nm) ∧ w.cell? ⟨b, o + k * 4 + 1, none⟩ = some (.string (tn L k).key) ∧ w.cell? ⟨b, o + k * 4 + 2, none⟩ = some (.slice al (tn L k).list.length pl) ∧ w.cell? ⟨b, o + k * 4 + 3, none⟩ = some (.int .i64 (tn L k).quota) ∧ (tn L k).nm.size ≤ 9223372036854775807 ∧ (tn L k).key.size ≤ 9223372036854775807 ∧ RdR strS w (.slice al (tn L k).list.length pl) (tn L k).list ∧ (tn L k).list.length ≤ pl ∧ pl ≤ 9223372036854775807 := by
  rw [tn_get hk]
  obtain ⟨b, o, cs, rfl, hb, ⟨vl, rfl, f0, f1, hls⟩, hc⟩ := h.at k hk
  obtain ⟨al, pl, rfl, q1, q2⟩ := hls.form
  exact ⟨b, o, al, pl, rfl, hb, hc 0 _ rfl, hc 1 _ rfl, hc 2 _ rfl, hc 3 _ rfl, f0, f1, hls, q1, q2⟩
set_option maxHeartbeats 1000000 in
theorem specAtT (L : List TenantD) (name : ByteArray) (v : Value) (w : World) (hr : RdR tenantS w v L) (hL : L.length ≤ 1048576) : Calls Tryz.prog 35 #[v, .string name] w fun x w' => x = .returned (.int .i64 (atV L name)) ∧ Below w.heap.size w w' := by
  obtain ⟨ad, cap, rfl, h1, h2⟩ := hr.form
  obtain ⟨A, hA⟩ : ∃ A, atV L name = A := ⟨_, rfl⟩
  rw [hA]
  have HA := hide hA
  have HR := hide hr
  clear hA hr
  go_enter Tryz.func35, Tryz.ntmps35
  go_wp2_with fail
  go_loop [5] (fun i => ∃ k : Nat, i = .int .i64 (k : Int) ∧ k ≤ L.length ∧ Hid (atF name k (L.drop k) = A)) (fun i => L.length - (intOf i).toNat)
  case atStart => exact ⟨0, rfl, Nat.zero_le _, HA⟩
  case round =>
    obtain ⟨k, rfl, hk, HK⟩ := hrel
    by_cases hlt : k < L.length
    · have hltI : (k : Int) < L.length := by omega
      obtain ⟨b, o, al, pl, rfl, hbw, c0, _⟩ := ten_at HR.out hlt
      have hd : L.drop k = L[k] :: L.drop (k + 1) := List.drop_eq_getElem_cons hlt
      have HK2 : Hid ((if (tn L k).nm = name then (k : Int) else atF name (k + 1) (L.drop (k + 1))) = A) := by show _ = A; rw [← HK.out, hd, tn_get hlt]; rfl
      clear hd
      generalize (tn L k).nm = z at *
      have he := str_eq z name
      by_cases hz : z = name
      · rw [decide_eq_true hz] at he
        have HV : Hid (A = (k : Int)) := by show A = _; rw [← HK2.out, if_pos hz]
        clear hz
        go_wp2_with fail
        go_ret
        exact ⟨by rw [HV.out]; rfl, Below.refl _ _⟩
      · rw [decide_eq_false hz] at he
        have HV : Hid (atF name (k + 1) (L.drop (k + 1)) = A) := by show _ = A; rw [← HK2.out, if_neg hz]
        clear hz
        go_wp2_with fail
        go_round
        case rel => exact ⟨k + 1, by go_num, by omega, HV⟩
        case measure => simp [intOf]; omega
    · have hltI : ¬ (k : Int) < L.length := by omega
      have HV : Hid (A = -1) := by show A = _; rw [← HK.out, List.drop_of_length_le (by omega)]; rfl
      go_wp2_with fail
      go_ret
      exact ⟨by rw [HV.out]; rfl, Below.refl _ _⟩
theorem specTimeB (t : Int) (w : World) : Calls Tryz.prog 37 #[.int .i64 t] w fun e w' => e = .returned (.bool (timeB t)) ∧ Below w.heap.size w w' := (specTime14 t w).mono fun e w' ⟨h1, h2⟩ => ⟨h1, by subst h2; exact Below.refl _ _⟩
set_option maxHeartbeats 2000000 in
theorem specAdmitted (L : List TenantD) (token target : ByteArray) (now op : Int) (v : Value) (w : World) (hr : RdR tenantS w v L) (hL : L.length ≤ 1048576) (ht : token.size ≤ 2000000) (htg : target.size ≤ maxLen) :
    Calls Tryz.prog 14 #[v, .string token, .string target, .int .i64 now, .int .i64 op] w fun x w' => x = .returned (.int .i64 (admitV L token target now op)) ∧ Below w.heap.size w w' := by
  obtain ⟨ad, cap, rfl, h1, h2⟩ := hr.form
  obtain ⟨A, hA⟩ : ∃ A, admitV L token target now op = A := ⟨_, rfl⟩
  rw [hA]
  have HA : Hid (admitV L token target now op = A) := hA
  have HR := hide hr
  clear hA hr
  have HBW := hide (Below.refl w.heap.size w)
  have hT := fun w h => specTenantsOk L (.slice ad L.length cap) w h
  have hM := fun w => specTimeB now w
  cases h0 : okTs L
  · rw [h0] at hT
    have HV : Hid (A = 500) := by show A = _; rw [← HA.out]; unfold admitV; rw [if_pos (.inl h0)]
    go_enter Tryz.func14, Tryz.ntmps14
    go_wp2_with fail
    refine (hT _ (HR.out.new HBW.out)).mono ?_; rintro e w1 ⟨rfl, hb⟩; replace HBW := hide (bchain HBW.out hb); clear hb
    go_wp2_with fail
    go_ret; exact ⟨by rw [HV.out]; rfl, HBW.out⟩
  rw [h0] at hT
  cases h3 : timeB now
  · rw [h3] at hM
    have HV : Hid (A = 500) := by show A = _; rw [← HA.out]; unfold admitV; rw [if_pos (.inr (.inl h3))]
    go_enter Tryz.func14, Tryz.ntmps14
    go_wp2_with fail
    refine (hT _ (HR.out.new HBW.out)).mono ?_; rintro e w1 ⟨rfl, hb⟩; replace HBW := hide (bchain HBW.out hb); clear hb
    go_wp2_with fail
    refine (hM _).mono ?_; rintro e w2 ⟨rfl, hb⟩; replace HBW := hide (bchain HBW.out hb); clear hb
    go_wp2_with fail
    go_ret; exact ⟨by rw [HV.out]; rfl, HBW.out⟩
  rw [h3] at hM
  by_cases h4 : op < 0
  · have HV : Hid (A = 500) := by show A = _; rw [← HA.out]; unfold admitV; rw [if_pos (.inr (.inr h4))]
    go_enter Tryz.func14, Tryz.ntmps14
    go_wp2_with fail
    refine (hT _ (HR.out.new HBW.out)).mono ?_; rintro e w1 ⟨rfl, hb⟩; replace HBW := hide (bchain HBW.out hb); clear hb
    go_wp2_with fail
    refine (hM _).mono ?_; rintro e w2 ⟨rfl, hb⟩; replace HBW := hide (bchain HBW.out hb); clear hb
    go_wp2_with fail
    go_ret; exact ⟨by rw [HV.out]; rfl, HBW.out⟩
  have HA2 : Hid ((if (readV token).2.2 = false ∨ atV L (readV token).1 < 0 ∨ signV token (tn L (atV L (readV token).1).toNat).key now = false then 401
  else if listV (tn L (atV L (readV token).1).toNat).list target = false then 403
  else if (tn L (atV L (readV token).1).toNat).quota ≤ op then 429 else 200) = A) := by
    show _ = A
    rw [← HA.out]
    unfold admitV
    exact (if_neg (by rw [h0, h3]; simp; omega)).symm
  have hRd := fun w => specReadToken token w ht
  obtain ⟨⟨rn, ru, rb⟩, hrv⟩ : ∃ x, readV token = x := ⟨_, rfl⟩
  rw [hrv] at hRd HA2
  dsimp only at hRd HA2
  clear hrv HA h0 h3
  have hAt := fun w h => specAtT L rn (.slice ad L.length cap) w h hL
  cases rb
  · have HV : Hid (A = 401) := by show A = _; rw [← HA2.out, if_pos (.inl rfl)]
    go_enter Tryz.func14, Tryz.ntmps14
    go_wp2_with fail
    refine (hT _ (HR.out.new HBW.out)).mono ?_; rintro e w1 ⟨rfl, hb⟩; replace HBW := hide (bchain HBW.out hb); clear hb
    go_wp2_with fail
    refine (hM _).mono ?_; rintro e w2 ⟨rfl, hb⟩; replace HBW := hide (bchain HBW.out hb); clear hb
    go_wp2_with fail
    refine (hRd _).mono ?_; rintro e w3 ⟨rfl, hb⟩; replace HBW := hide (bchain HBW.out hb); clear hb
    go_wp2_with fail
    refine (hAt _ (HR.out.new HBW.out)).mono ?_; rintro e w4 ⟨rfl, hb⟩; replace HBW := hide (bchain HBW.out hb); clear hb
    go_wp2_with fail
    go_ret; exact ⟨by rw [HV.out]; rfl, HBW.out⟩
  by_cases h5 : atV L rn < 0
  · have HV : Hid (A = 401) := by show A = _; rw [← HA2.out, if_pos (.inr (.inl h5))]
    generalize atV L rn = z at *
    go_enter Tryz.func14, Tryz.ntmps14
    go_wp2_with fail
    refine (hT _ (HR.out.new HBW.out)).mono ?_; rintro e w1 ⟨rfl, hb⟩; replace HBW := hide (bchain HBW.out hb); clear hb
    go_wp2_with fail
    refine (hM _).mono ?_; rintro e w2 ⟨rfl, hb⟩; replace HBW := hide (bchain HBW.out hb); clear hb
    go_wp2_with fail
    refine (hRd _).mono ?_; rintro e w3 ⟨rfl, hb⟩; replace HBW := hide (bchain HBW.out hb); clear hb
    go_wp2_with fail
    refine (hAt _ (HR.out.new HBW.out)).mono ?_; rintro e w4 ⟨rfl, hb⟩; replace HBW := hide (bchain HBW.out hb); clear hb
    go_wp2_with fail
    go_ret; exact ⟨by rw [HV.out]; rfl, HBW.out⟩
  obtain ⟨k, hk, hz, _⟩ := at_found (show 0 ≤ atV L rn by omega)
  rw [hz] at hAt HA2
  rw [Int.toNat_natCast] at HA2
  have hkI : (k : Int) < L.length := by omega
  have hk0 : ¬ (k : Int) < 0 := by omega
  clear h5 hz
  go_enter Tryz.func14, Tryz.ntmps14
  go_wp2_with fail
  refine (hT _ (HR.out.new HBW.out)).mono ?_; rintro e w1 ⟨rfl, hb⟩; replace HBW := hide (bchain HBW.out hb); clear hb
  go_wp2_with fail
  refine (hM _).mono ?_; rintro e w2 ⟨rfl, hb⟩; replace HBW := hide (bchain HBW.out hb); clear hb
  go_wp2_with fail
  refine (hRd _).mono ?_; rintro e w3 ⟨rfl, hb⟩; replace HBW := hide (bchain HBW.out hb); clear hb
  go_wp2_with fail
  refine (hAt _ (HR.out.new HBW.out)).mono ?_; rintro e w4 ⟨rfl, hb⟩; replace HBW := hide (bchain HBW.out hb); clear hb
  clear hT hM hRd hAt
  obtain ⟨b, o, al, pl, rfl, hbw, c0, c1, c2, c3, f0, f1, hls, q1, q2⟩ := ten_at (HR.out.new HBW.out) hk
  generalize tn L k = x at *
  obtain ⟨xn, xk, xl, xq⟩ := x
  dsimp only at c0 c1 c2 c3 f0 f1 hls q1 q2 HA2
  have hSg := fun w => specSigned token xk now w ht (by unfold maxLen; omega)
  have HLS := hide hls
  clear hls
  cases h6 : signV token xk now
  · rw [h6] at hSg
    have HV : Hid (A = 401) := by show A = _; rw [← HA2.out, if_pos (.inr (.inr h6))]
    go_wp2_with fail
    refine (hSg _).mono ?_; rintro e w5 ⟨rfl, hb⟩; replace HBW := hide (bchain HBW.out hb); clear hb
    go_wp2_with fail
    go_ret; exact ⟨by rw [HV.out]; rfl, HBW.out⟩
  rw [h6] at hSg HA2
  go_wp2_with fail
  refine (hSg _).mono ?_; rintro e w5 ⟨rfl, hb5⟩
  have HBW5 := hide (bchain HBW.out hb5)
  have hls5 := HLS.out.new hb5
  have c25 := (hb5.cell (p := ⟨b, o + k * 4 + 2, none⟩) hbw).trans c2
  have c35 := (hb5.cell (p := ⟨b, o + k * 4 + 3, none⟩) hbw).trans c3
  have hbw5 := Nat.lt_of_lt_of_le hbw hb5.size
  have hLd := fun w h => specListed xl target (.slice al xl.length pl) w h (fun s hs => by have := rd_small hls5 s hs; unfold maxLen; omega) htg
  have HLS5 := hide hls5
  clear hb5 hls5 c0 c1 c2 c3 hSg HLS HBW
  cases h7 : listV xl target
  · rw [h7] at hLd
    have HV : Hid (A = 403) := by show A = _; rw [← HA2.out, if_neg (by first | (simp; done) | (simp; omega)), if_pos h7]
    go_wp2_with fail
    refine (hLd _ (rd_strs HLS5.out)).mono ?_; rintro e w6 ⟨rfl, hb6⟩
    have HBW := hide (bchain HBW5.out hb6)
    go_wp2_with fail
    go_ret; exact ⟨by rw [HV.out]; rfl, HBW.out⟩
  rw [h7] at hLd
  go_wp2_with fail
  refine (hLd _ (rd_strs HLS5.out)).mono ?_; rintro e w6 ⟨rfl, hb6⟩
  have HBW := hide (bchain HBW5.out hb6)
  have c36 := (hb6.cell (p := ⟨b, o + k * 4 + 3, none⟩) hbw5).trans c35
  have hbw6 := Nat.lt_of_lt_of_le hbw5 hb6.size
  clear hb6 c25 c35 hLd HBW5 HLS5
  by_cases h8 : xq ≤ op
  · have HV : Hid (A = 429) := by show A = _; rw [← HA2.out, if_neg (by first | (simp; done) | (simp; omega)), if_neg (by rw [h7]; simp), if_pos h8]
    go_wp2_with fail
    go_ret; exact ⟨by rw [HV.out]; rfl, HBW.out⟩
  · have HV : Hid (A = 200) := by show A = _; rw [← HA2.out, if_neg (by first | (simp; done) | (simp; omega)), if_neg (by rw [h7]; simp), if_neg h8]
    have h8' : op < xq := by omega
    go_wp2_with fail
    go_ret; exact ⟨by rw [HV.out]; rfl, HBW.out⟩
theorem sv_one15 (L : List ByteArray) : ∀ u ∈ L.map Value.string, u.oneCell' = true := by
  intro u hu
  obtain ⟨z, _, rfl⟩ := List.mem_map.1 hu
  rfl
def reachK (L : List TenantD) (target : ByteArray) (k : Nat) : List ByteArray := ((L.take k).filter (fun x => listV x.list target)).map (·.nm)
theorem reachK_step {L : List TenantD} {target : ByteArray} {k : Nat} (h : k < L.length) : reachK L target (k + 1) = if listV (tn L k).list target = true then reachK L target k ++ [(tn L k).nm] else reachK L target k := by
  unfold reachK
  rw [List.take_succ_eq_append_getElem h, List.filter_append, List.map_append, tn_get h]
  by_cases e : listV L[k].list target = true
  · rw [if_pos e]; simp [e]
  · rw [if_neg e]; simp [e]
theorem reachK_len (L : List TenantD) (target : ByteArray) (k : Nat) : (reachK L target k).length ≤ k := by
  unfold reachK
  rw [List.length_map]
  exact Nat.le_trans (List.length_filter_le _ _) (by rw [List.length_take]; omega)
set_option maxHeartbeats 2000000 in
theorem specReaches (L : List TenantD) (target : ByteArray) (v : Value) (w : World) (hr : RdR tenantS w v L) (htg : target.size ≤ maxLen) :
    Calls Tryz.prog 18 #[v, .string target] w fun x w' => ∃ v', x = .returned v' ∧ OwX strS w' w.heap.size w'.heap.size v' (reachV L target) ∧ Below w.heap.size w w' := by
  obtain ⟨ad, cap, rfl, h1, h2⟩ := hr.form
  obtain ⟨A, hA⟩ : ∃ A, reachV L target = A := ⟨_, rfl⟩
  rw [hA]
  have HA := hide hA
  have HR := hide hr
  clear hA hr
  have hT := fun w h => specTenantsOk L (.slice ad L.length cap) w h
  have hX : Below w.heap.size w (w.alloc (.cells #[] 9)) := (Below.refl _ _).alloc (Nat.le_refl _) _
  have HO0 : Hid ((w.alloc (.cells #[] 9)).ownsRow w.heap.size 9 1 (.slice (some ⟨w.heap.size, 0, none⟩) 0 0) 0 []) := owns_lit w 9 1 0 #[] rfl (by omega)
  have HX := hide hX
  clear hX
  cases h0 : okTs L
  · rw [h0] at hT
    have HV : Hid (A = []) := by show A = _; rw [← HA.out]; unfold reachV; rw [if_neg (by rw [h0]; simp)]
    go_enter Tryz.func18, Tryz.ntmps18
    go_wp2_with fail
    generalize w.alloc (.cells #[] 9) = W at *
    refine (hT _ (HR.out.new HX.out)).mono ?_; rintro e w1 ⟨rfl, hb1⟩
    have HO1 := hide (owns_new HO0.out hb1)
    have HB1 := hide (bchain HX.out hb1)
    clear hb1 hT HX HO0
    go_wp2_with fail
    go_ret
    refine ⟨_, rfl, ?_, HB1.out⟩
    rw [HV.out]
    exact strs_ow HO1.out (by simp)
  rw [h0] at hT
  have hl8 := (okTs_iff.1 h0).1
  have HV : Hid (A = reachK L target L.length) := by show A = _; rw [← HA.out]; unfold reachV reachK; rw [if_pos h0, List.take_length]
  go_enter Tryz.func18, Tryz.ntmps18
  go_wp2_with fail
  generalize w.alloc (.cells #[] 9) = W at *
  refine (hT _ (HR.out.new HX.out)).mono ?_; rintro e w1 ⟨rfl, hb1⟩
  have HO1 := hide (owns_new HO0.out hb1)
  have HB1 := hide (bchain HX.out hb1)
  clear hb1 hT HX HO0 h0 HA
  go_wp2_with fail
  go_loopw [5, 6] (fun s i wr => ∃ (k : Nat) (R : List ByteArray) (ab : Option Addr) (pb : Nat), i = .int .i64 (k : Int) ∧ s = .slice ab R.length pb ∧ k ≤ L.length ∧ R.length ≤ k ∧ Hid (R = reachK L target k) ∧ Hid (∀ y ∈ R, y.size ≤ 9223372036854775807) ∧ Hid (wr.ownsRow w.heap.size 9 1 (.slice ab R.length pb) R.length (R.map Value.string)) ∧ Hid (Below w.heap.size w wr)) (fun _ i _ => L.length - (intOf i).toNat)
  case atStart => exact ⟨0, [], _, _, rfl, rfl, Nat.zero_le _, Nat.le_refl _, hide rfl, by show ∀ y ∈ [], _; simp, HO1, HB1⟩
  case round =>
    clear HO1 HB1
    obtain ⟨k, R, ab, pb, rfl, rfl, hk, hRk, HRR, HSM, HO, HB⟩ := hrel
    by_cases hlt : k < L.length
    rotate_left
    · have hltI : ¬ (k : Int) < L.length := by omega
      obtain rfl : k = L.length := by omega
      go_wp2_with fail
      go_ret
      refine ⟨_, rfl, ?_, HB.out⟩
      rw [HV.out, ← HRR.out]
      exact strs_ow HO.out HSM.out
    have hltI : (k : Int) < L.length := by omega
    obtain ⟨b, o, al, pl, rfl, hbw, c0, _, c2, _, f0, _, hls, q1, q2⟩ := ten_at (HR.out.new HB.out) hlt
    have HST := hide (reachK_step (target := target) hlt)
    generalize tn L k = x at *
    obtain ⟨xn, xk, xl, xq⟩ := x
    dsimp only at c0 c2 f0 hls q1 q2 HST
    have hLd := fun w h => specListed xl target (.slice al xl.length pl) w h (fun s hs => by have := rd_small hls s hs; unfold maxLen; omega) htg
    have HLS := hide hls
    clear hls
    cases h7 : listV xl target
    · rw [h7] at hLd
      have HR2 : Hid (R = reachK L target (k + 1)) := by show R = _; rw [HST.out, if_neg (by rw [h7]; simp)]; exact HRR.out
      go_wp2_with fail
      refine (hLd _ (rd_strs HLS.out)).mono ?_; rintro e w6 ⟨rfl, hb6⟩
      have HO6 := hide (owns_new HO.out hb6)
      have HB6 := hide (bchain HB.out hb6)
      clear hb6 hLd HO HB HLS c0 c2
      go_wp2_with fail
      go_roundw
      case rel => exact ⟨k + 1, R, ab, pb, by go_num, rfl, by omega, by omega, HR2, HSM, HO6, HB6⟩
      case measure => simp [intOf]; omega
    · rw [h7] at hLd
      have HR2 : Hid (R ++ [xn] = reachK L target (k + 1)) := by show _ = _; rw [HST.out, if_pos h7, HRR.out]
      go_wp2_with fail
      refine (hLd _ (rd_strs HLS.out)).mono ?_; rintro e w6 ⟨rfl, hb6⟩
      have HO6 := hide (owns_new HO.out hb6)
      have HB6 := hide (bchain HB.out hb6)
      have c06 := (hb6.cell (p := ⟨b, o + k * 4, none⟩) hbw).trans c0
      have hbw6 := Nat.lt_of_lt_of_le hbw hb6.size
      clear hb6 hLd HO HB HLS c0 c2
      have hX : Below w6.heap.size w6 (w6.alloc (.cells #[.string xn] 9)) := (Below.refl _ _).alloc (Nat.le_refl _) _
      have hoX := owns_new HO6.out hX
      have hrX : Reads (w6.alloc (.cells #[.string xn] 9)) (.slice (some ⟨w6.heap.size, 0, none⟩) 1 1) 1 1 [.string xn] := reads_of_owns (owns_lit w6 9 1 1 #[.string xn] rfl (by omega))
      have hbX := bchain HB6.out hX
      have hsX := hbX.size
      have HSM2 : Hid (∀ y ∈ R ++ [xn], y.size ≤ 9223372036854775807) := fun y hy => by
        rcases List.mem_append.1 hy with h | h
        · exact HSM.out y h
        · simp at h; subst h; exact f0
      clear hX HB6 HO6
      go_wp2_with (at_builtin; go_must (refine wpList_app _ (by rfl) _ _ 30 (by rfl) 9 (.string ⟨#[]⟩) 1 16 Tryz.underlying30 (by kernel_rfl) rfl (by decide) w.heap.size _ R.length (R.map Value.string) (by rfl) hoX _ 1 [.string xn] (by rfl) hrX (sv_one15 [xn]) (by omega) (by decide) hsX ?_))
      intro ad7 cp7 w7 hown7 hg7 hat7
      have HB7 := hide (hbX.grown hg7 hbX.size (fun k hk => (hoX.lt k hk).1))
      have HO7 : Hid (w7.ownsRow w.heap.size 9 1 (.slice ad7 (R ++ [xn]).length cp7) (R ++ [xn]).length ((R ++ [xn]).map Value.string)) := by show World.ownsRow _ _ _ _ _ _ _; rw [List.map_append, List.length_append]; exact hown7
      clear hown7 hg7 hat7 hoX hrX hbX hsX c06
      go_wp2_with fail
      go_roundw
      case rel => exact ⟨k + 1, R ++ [xn], ad7, cp7, by go_num, by simp, by omega, by simp; omega, HR2, HSM2, HO7, HB7⟩
      case measure => simp [intOf]; omega
end Go.Proofs.YtfemmnhfllbgjaaGreatDoor
/- What the laws of tokens draw: texts out of a row of which two are made, lists of places, places. -/
namespace Go.Proofs.YtfemmnhfllbgjaaGreatDoor
open Go.RowKit
set_option maxRecDepth 100000
set_option linter.unusedSimpArgs false
set_option linter.unusedVariables false
theorem made_all (z : Value) (R : Nat) (hz : z.cells = #[z]) : (madeCells z.cells R).toList = List.replicate R z := by
  rw [hz]
  apply List.ext_getElem
  · simp [size_madeCells]
  · intro i h1 h2
    simp [madeCells, Nat.mod_one]
theorem make_bytesF (R : Nat) (h : R ≤ 1048576) : ∃ M : Array Value, M.size = R ∧ M.toList = List.replicate R (.int .u8 0) ∧ ∀ X : World, (Instr.makeSlice 22 (.int .i64 (R : Int)) (.int .i64 (R : Int))).run Tryz.prog X = .ok (.slice (some ⟨X.heap.size, 0, none⟩) R R) (X.alloc (.cells M 5)) := by
  obtain ⟨i0, hi, hz0, hz1, hz2⟩ := info_parts (P := Tryz.prog) (e := 5) (z := .int .u8 0) (size := 1) (bytes := 1) (by kernel_rfl)
  refine ⟨madeCells (Value.int .u8 0).cells (R * 1), by rw [size_madeCells, Nat.mul_one], by rw [Nat.mul_one]; exact made_all _ R rfl, fun X => ?_⟩
  have h := run_make (P := Tryz.prog) X 22 5 i0 (.int .u8 0) Tryz.underlying22 hi hz0 .i64 .i64 (R : Int) (R : Int) (by omega) (by omega) (by rw [hz2]; omega) (by omega)
  rw [hz1] at h
  simpa using h
theorem make_strs (R : Nat) (h : R ≤ 1048576) : ∃ M : Array Value, M.size = R ∧ M.toList = List.replicate R (.string ⟨#[]⟩) ∧ ∀ X : World, (Instr.makeSlice 30 (.int .i64 (R : Int)) (.int .i64 (R : Int))).run Tryz.prog X = .ok (.slice (some ⟨X.heap.size, 0, none⟩) R R) (X.alloc (.cells M 9)) := by
  obtain ⟨i0, hi, hz0, hz1, hz2⟩ := info_parts (P := Tryz.prog) (e := 9) (z := .string ⟨#[]⟩) (size := 1) (bytes := 16) (by kernel_rfl)
  refine ⟨madeCells (Value.string ⟨#[]⟩).cells (R * 1), by rw [size_madeCells, Nat.mul_one], by rw [Nat.mul_one]; exact made_all _ R rfl, fun X => ?_⟩
  have h := run_make (P := Tryz.prog) X 30 9 i0 (.string ⟨#[]⟩) Tryz.underlying30 hi hz0 .i64 .i64 (R : Int) (R : Int) (by omega) (by omega) (by rw [hz2]; omega) (by omega)
  rw [hz1] at h
  simpa using h
/-- A row of n bytes that was made, apart from the cursor's block. -/
structure MadeB (u : World) (q n g : Nat) : Prop where
  ne : q ≠ g
  own : u.ownsRow 0 5 1 (.slice (some ⟨q, 0, none⟩) n n) n (List.replicate n (.int .u8 0))
theorem MadeB.new {u u' : World} {q n g : Nat} (h : MadeB u q n g) (hb : Below u.heap.size u u') : MadeB u' q n g := ⟨h.ne, owns_new h.own hb⟩
theorem MadeB.moves {u u' : World} {q n g : Nat} (h : MadeB u q n g) (hm : Moves g u u') : MadeB u' q n g := ⟨h.ne, owns_kept h.own (fun k hk hl => hm.block k hl (fun e => h.ne (by have : q = k := Option.some.inj hk; omega)))⟩
theorem madeB_of {u : World} {n g : Nat} {M : Array Value} (hM : M.size = n) (hL : M.toList = List.replicate n (.int .u8 0)) (hg : g < u.heap.size) (hn : n ≤ 1000000) : MadeB (u.alloc (.cells M 5)) u.heap.size n g :=
  ⟨by omega, by have := owns_lit u 5 1 n M (by omega) hn; rw [hL] at this; exact owns_base this (fun _ _ => Nat.zero_le _)⟩
theorem MadeB.text {u : World} {q n g : Nat} (h : MadeB u q n g) : ∃ s : ByteArray, s.size = n ∧ (convert 22 9 (.slice (some ⟨q, 0, none⟩) n n)).run Tryz.prog u = .ok (.string s) u :=
  row_to_string h.own (fun x hx => by rw [List.eq_of_mem_replicate hx]; exact ⟨0, rfl, by decide, by decide⟩)
/-- A row of N texts, each of at most S bytes, apart from the cursor's block. -/
def RowS (u : World) (q N S g : Nat) : Prop := q < u.heap.size ∧ q ≠ g ∧ ∀ j, j < N → ∃ s : ByteArray, s.size ≤ S ∧ u.cell? ⟨q, j, none⟩ = some (.string s)
theorem RowS.new {u u' : World} {q N S g : Nat} (h : RowS u q N S g) (hb : Below u.heap.size u u') : RowS u' q N S g := by
  obtain ⟨h1, h2, h3⟩ := h
  refine ⟨Nat.lt_of_lt_of_le h1 hb.size, h2, fun j hj => ?_⟩
  obtain ⟨s, hs, hc⟩ := h3 j hj
  exact ⟨s, hs, (hb.cell (p := ⟨q, j, none⟩) h1).trans hc⟩
theorem RowS.moves {u u' : World} {q N S g : Nat} (h : RowS u q N S g) (hm : Moves g u u') : RowS u' q N S g := by
  obtain ⟨h1, h2, h3⟩ := h
  refine ⟨Nat.lt_of_lt_of_le h1 hm.size, h2, fun j hj => ?_⟩
  obtain ⟨s, hs, hc⟩ := h3 j hj
  exact ⟨s, hs, (hm.cell q j h1 h2).trans hc⟩
/-- A text that is picked out of a row of N, of which two are made: what holds while the operations come up in whatever order. -/
structure PickI (g B S m1 m2 N : Nat) (U : World) (l : Array Bool) (u : World) (x0 x1 x2 x3 x4 x6 x7 x8 x9 : Value) : Prop where
  hm : Moves g U u
  hc : Cur u g B
  f0 : l.getD 0 false = true → ∃ q, x0 = .slice (some ⟨q, 0, none⟩) m1 m1 ∧ MadeB u q m1 g
  f1 : l.getD 1 false = true → ∃ s : ByteArray, x1 = .string s ∧ s.size ≤ S
  f2 : l.getD 2 false = true → ∃ q, x2 = .slice (some ⟨q, 0, none⟩) m2 m2 ∧ MadeB u q m2 g
  f3 : l.getD 3 false = true → ∃ s : ByteArray, x3 = .string s ∧ s.size ≤ S
  f4 : l.getD 4 false = true → ∃ q, x4 = .slice (some ⟨q, 0, none⟩) N N ∧ RowS u q N S g
  f6 : l.getD 6 false = true → ∃ k : Nat, x6 = .int .i64 (k : Int) ∧ k < N
  f7 : l.getD 7 false = true → ∃ q k : Nat, x7 = .pointer (some ⟨q, k, none⟩) ∧ RowS u q N S g ∧ k < N
  f8 : l.getD 8 false = true → ∃ s : ByteArray, x8 = .string s ∧ s.size ≤ S
  f9 : l.getD 9 false = true → ∃ s : ByteArray, x9 = .string s ∧ s.size ≤ S
  tk : l.getD 5 false = true
theorem set_keep {i j : Nat} {l : Array Bool} (h : l.getD j false = true) : (l.setIfInBounds i true).getD j false = true := by
  by_cases e : i = j
  · subst e
    by_cases hi : i < l.size
    · exact set_is hi
    · simp [hi] at h
  · simp only [Array.getD_eq_getD_getElem?] at h ⊢
    rw [Array.getElem?_setIfInBounds_ne e]; exact h
set_option maxRecDepth 100000 in
set_option maxHeartbeats 4000000 in
theorem drawTarget14 (g B : Nat) (w : World) (hc : Cur w g B) :
    Calls Tryz.prog 28 #[.pointer (some ⟨g, 0, none⟩)] w fun e w' => ∃ z : ByteArray, z.size ≤ 61 ∧ e = .returned (.string z) ∧ Cur w' g B ∧ Moves g w w' := by
  have hgw := hc.lt
  go_enter Tryz.func28, Tryz.ntmps28
  go_wp2_with fail
  refine (once1 g B 14 _ hc (by omega)).mono ?_; rintro e w1 ⟨v, rfl, hc1, hm1⟩
  have hg1 := hc1.lt
  cases v
  · go_wp2_with fail
    obtain ⟨VA, hVA⟩ : ∃ V, w1.alloc (.cells #[.string ⟨#[97, 46, 120]⟩, .string ⟨#[98, 46, 121]⟩, .string ⟨#[99, 46, 121]⟩, .string ⟨#[46, 121]⟩, .string ⟨#[122]⟩] 9) = V := ⟨_, rfl⟩
    have RA : RowIs VA w1.heap.size 9 [.string ⟨#[97, 46, 120]⟩, .string ⟨#[98, 46, 121]⟩, .string ⟨#[99, 46, 121]⟩, .string ⟨#[46, 121]⟩, .string ⟨#[122]⟩] := by rw [← hVA]; exact rowIs_new w1 _ _
    have hbA : Below w1.heap.size w1 VA := by rw [← hVA]; exact (Below.refl _ _).alloc (Nat.le_refl _) _
    rw [hVA]
    clear hVA
    refine (below1 g B 5 _ (hc1.below hbA) (by omega)).mono ?_; rintro e w2 ⟨q, q0, q1, _, rfl, hc2, hm2⟩
    have q6 := q1 (by omega)
    replace RA := RA.moves hm2 (by omega)
    obtain ⟨qn, rfl⟩ : ∃ n : Nat, q = n := ⟨q.toNat, by omega⟩
    obtain ⟨z, hz0, hz⟩ : ∃ z : ByteArray, z.size ≤ 61 ∧ w2.cell? ⟨w1.heap.size, qn, none⟩ = some (.string z) := by
      have : qn = 0 ∨ qn = 1 ∨ qn = 2 ∨ qn = 3 ∨ qn = 4 := by omega
      rcases this with rfl | rfl | rfl | rfl | rfl <;> exact ⟨_, by decide, RA.cell rfl⟩
    have hlA := RA.lt
    have hmm := (hm1.trans (Moves.of_below hbA)).trans hm2
    clear q1 RA hbA hm2 hm1
    go_wp2_with fail
    go_ret
    exact ⟨z, hz0, rfl, hc2, hmm⟩
  · go_wp2_with fail
    have HC0 := hide hc1
    have HM0 := hide hm1
    clear hc1 hm1 hc hg1
    obtain ⟨M1, hM1, hL1, hk1⟩ := make_bytesF 60 (by decide)
    obtain ⟨M2, hM2, hL2, hk2⟩ := make_bytesF 61 (by decide)
    refine wp_region_any (by kernel_rfl) ?_; change wpAny _ _ _ _ _ _ _ (World.drew _)
    refine wpAny_take (i := 5) (v := ?_) rfl (by kernel_rfl) (by kernel_rfl) (by kernel_rfl) (fun _ _ _ h => h) (Or.inl ⟨by rfl, ?_⟩) ?_; rotate_left; focus (intro w; go_simp; try with_reducible rfl)
    refine wpAny_inv (fun (l : Array Bool) (a : Act) (u : World) => ∃ x0 x1 x2 x3 x4 x6 x7 x8 x9, a = ⟨#[.pointer (some ⟨g, 0, none⟩), undef, x9, .pointer (some ⟨g, 0, none⟩), .bool true, x0, x1, x2, x3, x4, .pointer (some ⟨g, 0, none⟩), x6, x7, x8, undef, undef, undef, undef, undef], []⟩ ∧ PickI g B 61 60 61 4 w1 l u x0 x1 x2 x3 x4 x6 x7 x8 x9) ?hs ?he _ _ _ _ rfl (by decide) ?h0
    case h0 => exact ⟨_, _, _, _, _, _, _, _, _, rfl, ⟨Moves.refl _ _ |>.drew, HC0.out.drew, fun h => absurd h (by decide), fun h => absurd h (by decide), fun h => absurd h (by decide), fun h => absurd h (by decide), fun h => absurd h (by decide), fun h => absurd h (by decide), fun h => absurd h (by decide), fun h => absurd h (by decide), fun h => absurd h (by decide), by decide⟩⟩
    case he =>
      rintro l a u ⟨x0, x1, x2, x3, x4, x6, x7, x8, x9, rfl, H⟩ hl hr
      have hall := all_listed hl (by kernel_rfl) hr
      obtain ⟨s, rfl, hs⟩ := H.f9 (hall 9 (by decide))
      have hcE := H.hc
      have hmE := H.hm
      clear H hall hr hl
      go_wp2_with fail
      go_ret
      exact ⟨s, hs, rfl, hcE, HM0.out.trans hmE⟩
    case hs =>
      rintro l a u io ⟨x0, x1, x2, x3, x4, x6, x7, x8, x9, rfl, H⟩ hl hr
      have hm := H.hm
      have hc := H.hc
      have hgu := hc.lt
      have f0 := H.f0
      have f1 := H.f1
      have f2 := H.f2
      have f3 := H.f3
      have f4 := H.f4
      have f6 := H.f6
      have f7 := H.f7
      have f8 := H.f8
      have f9 := H.f9
      have tk := H.tk
      clear H
      have hlt2 := ready_lt hr
      match io, hlt2, hr with
      | 0, _, hr =>
        have hb : Below u.heap.size u (u.alloc (.cells M1 5)) := (Below.refl _ _).alloc (Nat.le_refl _) _
        have hk : (Instr.makeSlice 22 (.int .i64 60) (.int .i64 60)).run Tryz.prog u = .ok (.slice (some ⟨u.heap.size, 0, none⟩) 60 60) (u.alloc (.cells M1 5)) := hk1 u
        refine wpOp_step (o := _) rfl (fun K hK => ?_)
        go_simp
        refine hK _ _ ?_; clear hK K
        exact ⟨_, _, _, _, _, _, _, _, _, rfl, ⟨hm.alloc _, hc.alloc _, fun _ => ⟨_, rfl, madeB_of hM1 hL1 hgu (by decide)⟩, fun h => (f1 (set_or h (by decide))), fun h => by obtain ⟨q, e, r⟩ := f2 (set_or h (by decide)); exact ⟨q, e, r.new hb⟩, fun h => (f3 (set_or h (by decide))), fun h => by obtain ⟨q, e, r⟩ := f4 (set_or h (by decide)); exact ⟨q, e, r.new hb⟩, fun h => (f6 (set_or h (by decide))), fun h => by obtain ⟨q, k, e, r, hk⟩ := f7 (set_or h (by decide)); exact ⟨q, k, e, r.new hb, hk⟩, fun h => (f8 (set_or h (by decide))), fun h => (f9 (set_or h (by decide))), set_keep tk⟩⟩
      | 1, _, hr =>
        obtain ⟨q, rfl, hmd⟩ := f0 (ready_waits hr (j := 0) (by kernel_rfl))
        obtain ⟨s, hs, hcv⟩ := hmd.text
        refine wpOp_step (o := _) rfl (fun K hK => ?_)
        go_simp
        refine hK _ _ ?_; clear hK K
        exact ⟨_, _, _, _, _, _, _, _, _, rfl, ⟨hm, hc, fun h => (f0 (set_or h (by decide))), fun _ => ⟨s, rfl, by omega⟩, fun h => (f2 (set_or h (by decide))), fun h => (f3 (set_or h (by decide))), fun h => (f4 (set_or h (by decide))), fun h => (f6 (set_or h (by decide))), fun h => (f7 (set_or h (by decide))), fun h => (f8 (set_or h (by decide))), fun h => (f9 (set_or h (by decide))), set_keep tk⟩⟩
      | 2, _, hr =>
        have hb : Below u.heap.size u (u.alloc (.cells M2 5)) := (Below.refl _ _).alloc (Nat.le_refl _) _
        have hk : (Instr.makeSlice 22 (.int .i64 61) (.int .i64 61)).run Tryz.prog u = .ok (.slice (some ⟨u.heap.size, 0, none⟩) 61 61) (u.alloc (.cells M2 5)) := hk2 u
        refine wpOp_step (o := _) rfl (fun K hK => ?_)
        go_simp
        refine hK _ _ ?_; clear hK K
        exact ⟨_, _, _, _, _, _, _, _, _, rfl, ⟨hm.alloc _, hc.alloc _, fun h => by obtain ⟨q, e, r⟩ := f0 (set_or h (by decide)); exact ⟨q, e, r.new hb⟩, fun h => (f1 (set_or h (by decide))), fun _ => ⟨_, rfl, madeB_of hM2 hL2 hgu (by decide)⟩, fun h => (f3 (set_or h (by decide))), fun h => by obtain ⟨q, e, r⟩ := f4 (set_or h (by decide)); exact ⟨q, e, r.new hb⟩, fun h => (f6 (set_or h (by decide))), fun h => by obtain ⟨q, k, e, r, hk⟩ := f7 (set_or h (by decide)); exact ⟨q, k, e, r.new hb, hk⟩, fun h => (f8 (set_or h (by decide))), fun h => (f9 (set_or h (by decide))), set_keep tk⟩⟩
      | 3, _, hr =>
        obtain ⟨q, rfl, hmd⟩ := f2 (ready_waits hr (j := 2) (by kernel_rfl))
        obtain ⟨s, hs, hcv⟩ := hmd.text
        refine wpOp_step (o := _) rfl (fun K hK => ?_)
        go_simp
        refine hK _ _ ?_; clear hK K
        exact ⟨_, _, _, _, _, _, _, _, _, rfl, ⟨hm, hc, fun h => (f0 (set_or h (by decide))), fun h => (f1 (set_or h (by decide))), fun h => (f2 (set_or h (by decide))), fun _ => ⟨s, rfl, by omega⟩, fun h => (f4 (set_or h (by decide))), fun h => (f6 (set_or h (by decide))), fun h => (f7 (set_or h (by decide))), fun h => (f8 (set_or h (by decide))), fun h => (f9 (set_or h (by decide))), set_keep tk⟩⟩
      | 4, _, hr =>
        obtain ⟨s1, rfl, hs1⟩ := f1 (ready_waits hr (j := 1) (by kernel_rfl))
        obtain ⟨s3, rfl, hs3⟩ := f3 (ready_waits hr (j := 3) (by kernel_rfl))
        have hb : Below u.heap.size u (u.alloc (.cells #[.string ⟨#[]⟩, .string ⟨#[42]⟩, .string s1, .string s3] 9)) := (Below.refl _ _).alloc (Nat.le_refl _) _
        have RA := rowIs_new u 9 [.string ⟨#[]⟩, .string ⟨#[42]⟩, .string s1, .string s3]
        have hRS : RowS (u.alloc (.cells #[.string ⟨#[]⟩, .string ⟨#[42]⟩, .string s1, .string s3] 9)) u.heap.size 4 61 g := by
          refine ⟨by simp, by omega, fun j hj => ?_⟩
          have hj5 : j = 0 ∨ j = 1 ∨ j = 2 ∨ j = 3 := by omega
          rcases hj5 with rfl | rfl | rfl | rfl <;> exact ⟨_, by first | exact hs1 | exact hs3 | decide, RA.cell rfl⟩
        refine wpOp_step (o := _) rfl (fun K hK => ?_)
        go_simp
        refine hK _ _ ?_; clear hK K
        exact ⟨_, _, _, _, _, _, _, _, _, rfl, ⟨hm.alloc _, hc.alloc _, fun h => by obtain ⟨q, e, r⟩ := f0 (set_or h (by decide)); exact ⟨q, e, r.new hb⟩, fun _ => ⟨s1, rfl, hs1⟩, fun h => by obtain ⟨q, e, r⟩ := f2 (set_or h (by decide)); exact ⟨q, e, r.new hb⟩, fun _ => ⟨s3, rfl, hs3⟩, fun _ => ⟨_, rfl, hRS⟩, fun h => (f6 (set_or h (by decide))), fun h => by obtain ⟨q, k, e, r, hk⟩ := f7 (set_or h (by decide)); exact ⟨q, k, e, r.new hb, hk⟩, fun h => (f8 (set_or h (by decide))), fun h => (f9 (set_or h (by decide))), set_keep tk⟩⟩
      | 5, _, hr =>
        have h0 := (ready_new hr hl).1
        rw [tk] at h0
        cases h0
      | 6, _, hr =>
        refine wpOp_step (o := _) rfl (fun K hK => ?_)
        go_simp
        refine (below1 g B 4 _ hc (by omega)).mono ?_
        rintro e u2 ⟨z, z0, z1, _, rfl, hc2, hm2⟩
        have z2 := z1 (by omega)
        obtain ⟨k, rfl⟩ : ∃ k : Nat, z = k := ⟨z.toNat, by omega⟩
        refine hK _ _ ?_; clear hK K
        exact ⟨_, _, _, _, _, _, _, _, _, rfl, ⟨hm.trans hm2, hc2, fun h => by obtain ⟨q, e, r⟩ := f0 (set_or h (by decide)); exact ⟨q, e, r.moves hm2⟩, fun h => (f1 (set_or h (by decide))), fun h => by obtain ⟨q, e, r⟩ := f2 (set_or h (by decide)); exact ⟨q, e, r.moves hm2⟩, fun h => (f3 (set_or h (by decide))), fun h => by obtain ⟨q, e, r⟩ := f4 (set_or h (by decide)); exact ⟨q, e, r.moves hm2⟩, fun _ => ⟨k, rfl, by omega⟩, fun h => by obtain ⟨q, k, e, r, hk⟩ := f7 (set_or h (by decide)); exact ⟨q, k, e, r.moves hm2, hk⟩, fun h => (f8 (set_or h (by decide))), fun h => (f9 (set_or h (by decide))), set_keep tk⟩⟩
      | 7, _, hr =>
        obtain ⟨q, rfl, hRS⟩ := f4 (ready_waits hr (j := 4) (by kernel_rfl))
        obtain ⟨k, rfl, hk⟩ := f6 (ready_waits hr (j := 6) (by kernel_rfl))
        have hkI : (k : Int) < 4 := by omega
        refine wpOp_step (o := _) rfl (fun K hK => ?_)
        go_simp
        refine hK _ _ ?_; clear hK K
        exact ⟨_, _, _, _, _, _, _, _, _, rfl, ⟨hm, hc, fun h => (f0 (set_or h (by decide))), fun h => (f1 (set_or h (by decide))), fun h => (f2 (set_or h (by decide))), fun h => (f3 (set_or h (by decide))), fun _ => ⟨q, rfl, hRS⟩, fun _ => ⟨k, rfl, hk⟩, fun _ => ⟨q, k, rfl, hRS, hk⟩, fun h => (f8 (set_or h (by decide))), fun h => (f9 (set_or h (by decide))), set_keep tk⟩⟩
      | 8, _, hr =>
        obtain ⟨q, k, rfl, hRS, hk⟩ := f7 (ready_waits hr (j := 7) (by kernel_rfl))
        obtain ⟨s, hs, hcs⟩ := hRS.2.2 k hk
        have hql := hRS.1
        refine wpOp_step (o := _) rfl (fun K hK => ?_)
        go_simp
        refine hK _ _ ?_; clear hK K
        exact ⟨_, _, _, _, _, _, _, _, _, rfl, ⟨hm, hc, fun h => (f0 (set_or h (by decide))), fun h => (f1 (set_or h (by decide))), fun h => (f2 (set_or h (by decide))), fun h => (f3 (set_or h (by decide))), fun h => (f4 (set_or h (by decide))), fun h => (f6 (set_or h (by decide))), fun _ => ⟨q, k, rfl, hRS, hk⟩, fun _ => ⟨s, rfl, hs⟩, fun h => (f9 (set_or h (by decide))), set_keep tk⟩⟩
      | 9, _, hr =>
        obtain ⟨s, rfl, hs⟩ := f8 (ready_waits hr (j := 8) (by kernel_rfl))
        refine wpOp_step (o := _) rfl (fun K hK => ?_)
        go_simp
        refine hK _ _ ?_; clear hK K
        exact ⟨_, _, _, _, _, _, _, _, _, rfl, ⟨hm, hc, fun h => (f0 (set_or h (by decide))), fun h => (f1 (set_or h (by decide))), fun h => (f2 (set_or h (by decide))), fun h => (f3 (set_or h (by decide))), fun h => (f4 (set_or h (by decide))), fun h => (f6 (set_or h (by decide))), fun h => (f7 (set_or h (by decide))), fun _ => ⟨s, rfl, hs⟩, fun _ => ⟨s, rfl, hs⟩, set_keep tk⟩⟩
      | n + 10, h, _ => exact absurd h (by simp)
end Go.Proofs.YtfemmnhfllbgjaaGreatDoor
/- Tenants as the program goes about them, in plain words: how many of them are right, whether their names rise, where each name is. -/
namespace Go.Proofs.YtfemmnhfllbgjaaGreatDoor
open Go.RowKit
set_option maxRecDepth 100000
set_option linter.unusedSimpArgs false
set_option linter.unusedVariables false
theorem lt_le {a b : ByteArray} (h : Op.bytesLess a.toList b.toList = true) : leS b a = false := by
  unfold leS
  cases h1 : Op.bytesLess b.toList a.toList
  · rw [Bool.false_or]
    refine beq_eq_false_iff_ne.2 fun e => ?_
    rw [e, less_irr] at h
    cases h
  · have := less_tr _ _ _ h h1
    rw [less_irr] at this
    cases this
def risT (L : List TenantD) : Bool := (List.range (L.length - 1)).all fun i => Op.bytesLess (tn L i).nm.toList (tn L (i + 1)).nm.toList
theorem risT_iff {L : List TenantD} : risT L = true ↔ ∀ i, i + 1 < L.length → Op.bytesLess (tn L i).nm.toList (tn L (i + 1)).nm.toList = true := by
  unfold risT
  simp only [List.all_eq_true, List.mem_range]
  exact ⟨fun h i hi => h i (by omega), fun h i hi => h i (by omega)⟩
def numT15 (L : List TenantD) : Nat := (L.filter okTn).length
theorem num_le (L : List TenantD) : numT15 L ≤ L.length := List.length_filter_le _ _
theorem num_yes {L : List TenantD} {k : Nat} (hk : k < L.length) (h : okTn (tn L k) = true) : numT15 (L.take (k + 1)) = numT15 (L.take k) + 1 := by
  unfold numT15
  rw [tn_get hk] at h
  rw [List.take_add_one, List.filter_append, List.getElem?_eq_getElem hk]
  simp only [Option.toList]
  rw [List.filter_cons_of_pos h]; simp
theorem num_no {L : List TenantD} {k : Nat} (hk : k < L.length) (h : okTn (tn L k) = false) : numT15 (L.take (k + 1)) = numT15 (L.take k) := by
  unfold numT15
  rw [tn_get hk] at h
  rw [List.take_add_one, List.filter_append, List.getElem?_eq_getElem hk]
  simp only [Option.toList]
  rw [List.filter_cons_of_neg (by rw [h]; simp)]; simp
theorem num_all {L : List TenantD} : numT15 L = L.length ↔ ∀ i, i < L.length → okTn (tn L i) = true := by
  unfold numT15
  rw [List.length_filter_eq_length_iff]
  constructor
  · intro h i hi; rw [tn_get hi]; exact h _ (List.getElem_mem hi)
  · intro h x hx
    obtain ⟨i, hi, rfl⟩ := List.mem_iff_getElem.1 hx
    have := h i hi
    rw [tn_get hi] at this
    exact this
theorem okTs_way (L : List TenantD) : okTs L = (decide (L.length ≤ 8) && (decide (numT15 L = L.length) && risT L)) := by
  apply Bool.eq_iff_iff.2
  rw [okTs_iff, Bool.and_eq_true, Bool.and_eq_true, decide_eq_true_eq, decide_eq_true_eq, num_all, risT_iff]
  constructor
  · rintro ⟨h1, h2⟩
    refine ⟨h1, fun i hi => (h2 i hi).1, fun i hi => ?_⟩
    rcases (h2 (i + 1) hi).2 with h | h
    · omega
    · exact le_lt h
  · rintro ⟨h1, h2, h3⟩
    refine ⟨h1, fun i hi => ⟨h2 i hi, ?_⟩⟩
    cases i with
    | zero => exact .inl rfl
    | succ i => exact .inr (lt_le (h3 i hi))
theorem okTn_way (d : TenantD) : okTn d = (nameB d.nm && (inB (d.key.size : Int) 1 40 && (plcB d.list && inB d.quota 0 20))) := by
  apply Bool.eq_iff_iff.2
  rw [okTn_iff, Bool.and_eq_true, Bool.and_eq_true, Bool.and_eq_true]
  unfold plcB
  rw [decide_eq_true_eq]
  constructor
  · rintro ⟨a, b, c, d, e⟩; exact ⟨a, b, ⟨c, e⟩, d⟩
  · rintro ⟨a, b, ⟨c, e⟩, d⟩; exact ⟨a, b, c, d, e⟩
/-- Where each name is, of the first k. -/
def plN (L : List TenantD) (k : Nat) (name : ByteArray) : Option Int := if 0 ≤ atV (L.take k) name then some (atV (L.take k) name) else none
theorem atF_app (name : ByteArray) (x : TenantD) : ∀ (M : List TenantD) (m : Nat), atF name m (M ++ [x]) = if 0 ≤ atF name m M then atF name m M else if x.nm = name then ((m + M.length : Nat) : Int) else -1
  | [], m => by simp [atF]
  | y :: M, m => by
    rw [List.cons_append]
    unfold atF
    by_cases e : y.nm = name
    · simp [e]
    · simp only [e, if_false]
      rw [atF_app name x M (m + 1)]
      have : m + 1 + M.length = m + (y :: M).length := by simp; omega
      rw [this]
theorem plN_zero (L : List TenantD) (name : ByteArray) : plN L 0 name = none := by unfold plN atV; simp [atF]
theorem plN_step {L : List TenantD} (h : okTs L = true) {k : Nat} (hk : k < L.length) : plN L k (tn L k).nm = none ∧ ∀ name, (if name = (tn L k).nm then some (k : Int) else plN L k name) = plN L (k + 1) name := by
  have h0 : ∀ name, 0 ≤ atV (L.take k) name → name ≠ (tn L k).nm := by
    intro name h1 e
    obtain ⟨j, hj, _, hn⟩ := at_found h1
    rw [List.length_take] at hj
    have hjL : j < L.length := by omega
    have : tn (L.take k) j = tn L j := by rw [tn_get (by rw [List.length_take]; omega), tn_get hjL, List.getElem_take]
    rw [this, e] at hn
    have := apart_names h hjL hk hn
    omega
  have hx : L.take (k + 1) = L.take k ++ [tn L k] := by rw [tn_get hk]; exact List.take_succ_eq_append_getElem hk
  refine ⟨by unfold plN; rw [if_neg (fun c => h0 _ c rfl)], fun name => ?_⟩
  have hl : (L.take k).length = k := by rw [List.length_take]; omega
  unfold plN
  rw [hx]
  have ha : atV (L.take k ++ [tn L k]) name = if 0 ≤ atV (L.take k) name then atV (L.take k) name else if (tn L k).nm = name then (k : Int) else -1 := by
    unfold atV; rw [atF_app, hl, Nat.zero_add]
  rw [ha]
  by_cases c : 0 ≤ atV (L.take k) name
  · rw [if_neg (h0 name c), if_pos c, if_pos c, if_pos c]
  · rw [if_neg c, if_neg c]
    by_cases e : name = (tn L k).nm
    · subst e; simp
    · have hne : ¬ (tn L k).nm = name := fun c => e c.symm
      rw [if_neg e]; simp only [hne, if_false]; rfl
theorem plN_end {L : List TenantD} {k : Nat} (hk : L.length ≤ k) (name : ByteArray) : plN L k name = if 0 ≤ atV L name then some (atV L name) else none := by unfold plN; rw [List.take_of_length_le hk]
end Go.Proofs.YtfemmnhfllbgjaaGreatDoor
/- Chapter 14's program: the mac, tokens made, read and signed, places listed. -/
namespace Go.Proofs.YtfemmnhfllbgjaaGreatDoor
open Go.RowKit
set_option maxRecDepth 100000
end Go.Proofs.YtfemmnhfllbgjaaGreatDoor
