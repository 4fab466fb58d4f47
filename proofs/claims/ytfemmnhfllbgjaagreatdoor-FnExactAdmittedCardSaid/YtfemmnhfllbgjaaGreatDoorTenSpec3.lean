/- Chapter 15's model: a copy of a list of tenants, and who is found in it. -/
import Derived.Test.YtfemmnhfllbgjaaGreatDoorTenSpec2
import Derived.Test.YtfemmnhfllbgjaaGreatDoorOwGrow

namespace Go.Proofs.YtfemmnhfllbgjaaGreatDoor
open Go.RowKit
set_option maxRecDepth 100000
set_option linter.unusedSimpArgs false
set_option linter.unusedVariables false
set_option maxHeartbeats 4000000 in
theorem specCopy15 (L : List TenantD) (v : Value) (w : World) (hr : RdR tenantS w v L) (hok : okTs L = true) :
    Calls Tryz.prog 36 #[v] w fun x w' => ∃ v', x = .returned v' ∧ OwX tenantS w' w.heap.size w'.heap.size v' L ∧ Below w.heap.size w w' := by
  obtain ⟨ad, cap, rfl, h1, h2⟩ := hr.form
  have HR := hide hr
  obtain ⟨hl8, hall⟩ := okTs_iff.1 hok
  have HALL := hide hall
  clear hr hall hok
  have hX0 : Below w.heap.size w (w.alloc (.cells #[] 32)) := (Below.refl _ _).alloc (Nat.le_refl _) _
  have HO0 : Hid (OwX tenantS (w.alloc (.cells #[] 32)) w.heap.size (w.alloc (.cells #[] 32)).heap.size (.slice (some ⟨w.heap.size, 0, none⟩) 0 0) []) := owX_empty w _ (by simp)
  have HX0 := hide hX0
  clear hX0
  go_enter Tryz.func36, Tryz.ntmps36
  go_wp2_with fail
  generalize w.alloc (.cells #[] 32) = W at *
  go_loopw [3, 4, 5] (fun s i _ wr => ∃ (k : Nat) (ab : Option Addr) (pb : Nat), i = .int .i64 (k : Int) ∧ s = .slice ab k pb ∧ k ≤ L.length ∧ Hid (OwX tenantS wr w.heap.size wr.heap.size (.slice ab k pb) (L.take k)) ∧ Hid (Below w.heap.size w wr)) (fun _ i _ _ => L.length - (intOf i).toNat)
  case atStart => exact ⟨0, _, _, rfl, rfl, Nat.zero_le _, HO0, HX0⟩
  case round =>
    clear HO0 HX0
    obtain ⟨k, ab, pb, rfl, rfl, hk, HO, HB⟩ := hrel
    by_cases hlt : k < L.length
    rotate_left
    · have hltI : ¬ (k : Int) < L.length := by omega
      obtain rfl : k = L.length := by omega
      rw [List.take_length] at HO
      go_wp2_with fail
      go_ret
      exact ⟨_, rfl, HO.out, HB.out⟩
    have hltI : (k : Int) < L.length := by omega
    obtain ⟨b, o, al, pl, rfl, hbw, c0, c1, c2, c3, f0, f1, hls, q1, q2⟩ := ten_at (HR.out.new HB.out) hlt
    have hokx := (okTn_iff.1 (HALL.out k hlt).1).2.2.1
    have HTK : Hid (L.take (k + 1) = L.take k ++ [tn L k]) := by show _ = _; rw [tn_get hlt]; exact List.take_succ_eq_append_getElem hlt
    obtain ⟨x, hx⟩ : ∃ x, tn L k = x := ⟨_, rfl⟩
    rw [hx] at c0 c1 c2 c3 f0 f1 hls q1 hokx HTK
    clear hx
    have hX : Below wr.heap.size wr (wr.alloc (.cells #[.string x.nm, .string x.key, .slice al x.list.length pl, .int .i64 x.quota] 32)) := (Below.refl _ _).alloc (Nat.le_refl _) _
    have RX := rowIs_new wr 32 [.string x.nm, .string x.key, .slice al x.list.length pl, .int .i64 x.quota]
    have hsX : wr.heap.size + 1 ≤ (wr.alloc (.cells #[.string x.nm, .string x.key, .slice al x.list.length pl, .int .i64 x.quota] 32)).heap.size := by simp
    have HLS := hide (hls.new hX)
    have HOX := hide (HO.out.new hX)
    have HBX := hide (bchain HB.out hX)
    have hsr := HB.out.size
    clear hls
    go_upto_region 6 with fail
    clear c0 c1 c2 c3 hbw HB HO hX
    generalize hge : wr.heap.size = ge at *
    clear hge
    generalize wr.alloc (.cells #[.string x.nm, .string x.key, .slice al x.list.length pl, .int .i64 x.quota] 32) = X at *
    have x2 := RX.cell (j := 2) rfl
    have xf := RX.frozen 2
    have xl := RX.lt
    have hY : Below X.heap.size X (X.alloc (.cells #[] 9)) := (Below.refl _ _).alloc (Nat.le_refl _) _
    have hoY : (X.alloc (.cells #[] 9)).ownsRow X.heap.size 9 1 (.slice (some ⟨X.heap.size, 0, none⟩) 0 0) 0 [] := owns_lit X 9 1 0 #[] rfl (by omega)
    have hrY := rd_strs (HLS.out.new hY)
    have HSMS := hide (rd_small HLS.out)
    go_wp2_with (at_builtin; go_must (refine wpList_app _ (by rfl) _ _ 30 (by rfl) 9 (.string ⟨#[]⟩) 1 16 Tryz.underlying30 (by kernel_rfl) rfl (by decide) X.heap.size _ 0 [] (by rfl) hoY _ x.list.length (x.list.map Value.string) (by rfl) hrY (sv_one15 _) (by omega) (by decide) hY.size ?_))
    intro ad7 cp7 w7 hown7 hg7 hat7
    try simp only [Nat.zero_add, List.nil_append] at hown7
    have hb7 : Below X.heap.size X w7 := hY.grown hg7 hY.size (fun k hk => (hoY.lt k hk).1)
    have R7 := RX.new hb7
    have c27 := R7.cell (j := 2) rfl
    have f27 := R7.frozen 2
    have l7 := R7.lt
    have hs7 := hb7.size
    have HRB := hide (R7.set 2 (.slice ad7 x.list.length cp7))
    have HO7 : Hid (w7.ownsRow X.heap.size 9 1 (.slice ad7 x.list.length cp7) x.list.length (x.list.map Value.string)) := hown7
    have HO8 := hide (owns_apart HO7.out ⟨ge, 2, none⟩ (.slice ad7 x.list.length cp7) (fun e => by have := (HO7.out.lt _ e).1; simp at this; omega))
    have HOX8 := hide ((HOX.out.new hb7).far ⟨ge, 2, none⟩ (.slice ad7 x.list.length cp7) (.inr (Nat.le_refl _)))
    have HB8 := hide ((bchain HBX.out hb7).setCell (p := ⟨ge, 2, none⟩) (show w.heap.size ≤ ge by omega) (.slice ad7 x.list.length cp7))
    have hs8 : ge + 1 ≤ (w7.setCell ⟨ge, 2, none⟩ (.slice ad7 x.list.length cp7)).heap.size := by simp; omega
    clear hown7 hg7 hat7 hoY hrY hY HO7 HOX HBX HLS RX x2 xf xl R7
    try rw [Nat.zero_add]
    go_upto_region 7 with fail
    clear c27 f27 l7 hb7
    generalize w7.setCell ⟨ge, 2, none⟩ (.slice ad7 x.list.length cp7) = V at *
    have y0 := HRB.out.cell (j := 0) rfl
    have y1 := HRB.out.cell (j := 1) rfl
    have y2 := HRB.out.cell (j := 2) rfl
    have y3 := HRB.out.cell (j := 3) rfl
    have yl := HRB.out.lt
    have hZ : Below V.heap.size V (V.alloc (.cells #[.string x.nm, .string x.key, .slice ad7 x.list.length cp7, .int .i64 x.quota] 32)) := (Below.refl _ _).alloc (Nat.le_refl _) _
    have RZ := rowIs_new V 32 [.string x.nm, .string x.key, .slice ad7 x.list.length cp7, .int .i64 x.quota]
    have hrdl : Reads (V.alloc (.cells #[.string x.nm, .string x.key, .slice ad7 x.list.length cp7, .int .i64 x.quota] 32)) (.slice (some ⟨V.heap.size, 0, none⟩) 1 1) 1 4 [.string x.nm, .string x.key, .slice ad7 x.list.length cp7, .int .i64 x.quota] := ⟨by simp, _, _, rfl, Nat.le_refl _, by unfold maxLen; omega, fun _ => ⟨V.heap.size, 0, rfl, RZ.lt, fun r y hy => by simpa using RZ.cell hy⟩⟩
    have hone : ∀ y ∈ ([.string x.nm, .string x.key, .slice ad7 x.list.length cp7, .int .i64 x.quota] : List Value), y.oneCell' = true := by intro y hy; simp at hy; rcases hy with rfl | rfl | rfl | rfl <;> rfl
    have HBZ := hide (bchain HB8.out hZ)
    have hsZ := hZ.size
    have hlk : (L.take k).length = k := by rw [List.length_take]; omega
    obtain ⟨xs, hoz, hgrow⟩ := (HOX8.out.new hZ).grow (by omega) (by omega)
    rw [hlk] at hoz hgrow
    have hoe : OwE tenantS (V.alloc (.cells #[.string x.nm, .string x.key, .slice ad7 x.list.length cp7, .int .i64 x.quota] 32)) ge (V.alloc (.cells #[.string x.nm, .string x.key, .slice ad7 x.list.length cp7, .int .i64 x.quota] 32)).heap.size [.string x.nm, .string x.key, .slice ad7 x.list.length cp7, .int .i64 x.quota] x := by
      have h9 := strs_owr (owns_base (owns_new HO8.out hZ) (fun _ _ => Nat.zero_le _)) HSMS.out
      refine ⟨_, ⟨_, _, rfl, f0, f1, h9, rfl⟩, opt_nodup _, fun y hy => ⟨?_, h9.lt y hy⟩⟩
      cases hq : (Value.slice ad7 x.list.length cp7).ownBlock with
      | none => rw [hq] at hy; cases hy
      | some z => rw [hq] at hy; simp at hy; subst hy; have := (HO8.out.lt y hq).1; omega
    have HGR := hide (fun w1 v' h1 h2 h3 => hgrow w1 v' _ x hoe h1 h2 h3)
    have hbo : ∀ q, (Value.slice ab k pb).ownBlock = some q → w.heap.size ≤ q := fun q hq => (HOX8.out.own q hq).1
    have HBO := hide hbo
    clear hgrow hoe RZ HOX8 HO8 HB8 hZ hbo
    go_wp2_with (at_builtin; go_must (refine wpList_app _ (by rfl) _ _ 24 (by rfl) 32 (.agg #[.string ⟨#[]⟩, .string ⟨#[]⟩, .slice none 0 0, .int .i64 0]) 4 64 Tryz.underlying24 (by kernel_rfl) rfl (by decide) 0 _ k xs (by rfl) hoz _ 1 _ (by rfl) hrdl hone (by omega) (by decide) (Nat.zero_le _) ?_))
    intro ad9 cp9 w9 hown9 hg9 hat9
    have HO9 := hide (HGR.out w9 _ hown9 hg9 (hat9.imp id (fun h => by rw [h]; simp)))
    have HB9 := hide (HBZ.out.grown hg9 (by omega) (fun q hq => HBO.out q hq))
    rw [← HTK.out] at HO9
    clear hown9 hg9 hat9 HGR HBZ HBO hoz hrdl hone y0 y1 y2 y3 yl HRB
    go_wp2_with fail
    go_roundw
    case rel => exact ⟨k + 1, ad9, cp9, by go_num, rfl, by omega, HO9, HB9⟩
    case measure => simp [intOf]; omega
/-- One tenant out of a row that is owned: its list is owned. -/
theorem ten_own {w : World} {lo hi : Nat} {ad : Option Addr} {n cap k : Nat} {L : List TenantD} (h : OwX tenantS w lo hi (.slice ad n cap) L) (hk : k < L.length) : ∃ b o al pl, ad = some ⟨b, o, none⟩ ∧ b < w.heap.size ∧ w.cell? ⟨b, o + k * 4, none⟩ = some (.string (tn L k).nm) ∧ w.cell? ⟨b, o + k * 4 + 1, none⟩ = some (.string (tn L k).key) ∧ w.cell? ⟨b, o + k * 4 + 2, none⟩ = some (.slice al (tn L k).list.length pl) ∧ w.cell? ⟨b, o + k * 4 + 3, none⟩ = some (.int .i64 (tn L k).quota) ∧ OwX strS w lo hi (.slice al (tn L k).list.length pl) (tn L k).list := by
  rw [tn_get hk]
  obtain ⟨bs, hO, hn, hb⟩ := h
  obtain ⟨g, cap', cs, b, he, hgl, hgm, hgb, hbs, hbn, hown, hcell, _⟩ := hO.put hn k hk
  simp only [Value.slice.injEq] at he
  obtain ⟨rfl, -, rfl⟩ := he
  obtain ⟨vl, b0, rfl, f0, f1, hls, rfl⟩ := hown
  obtain ⟨al, pl, rfl, q1, q2⟩ := hls.rd.form
  exact ⟨g, 0, al, pl, rfl, hgl, by rw [Nat.zero_add]; exact hcell 0 _ rfl, by rw [Nat.zero_add]; exact hcell 1 _ rfl, by rw [Nat.zero_add]; exact hcell 2 _ rfl, by rw [Nat.zero_add]; exact hcell 3 _ rfl, _, hls, hbn, fun y hy => hb y (hbs y hy)⟩
set_option maxHeartbeats 2000000 in
theorem specTenantOf (L : List TenantD) (name : ByteArray) (v : Value) (w : World) (hr : RdR tenantS w v L) (hL : L.length ≤ 1048576) :
    Calls Tryz.prog 12 #[v, .string name] w fun x w' => ∃ vl, x = .returned (.tuple #[.agg #[.string (tenantV L name).1.nm, .string (tenantV L name).1.key, vl, .int .i64 (tenantV L name).1.quota], .bool (tenantV L name).2]) ∧ OwX strS w' w.heap.size w'.heap.size vl (tenantV L name).1.list ∧ Below w.heap.size w w' := by
  obtain ⟨ad, cap, rfl, h1, h2⟩ := hr.form
  obtain ⟨⟨⟨an, ak, al, aq⟩, ab⟩, hA⟩ : ∃ A, tenantV L name = A := ⟨_, rfl⟩
  rw [hA]
  dsimp only
  have HA := hide hA
  have HR := hide hr
  clear hA hr
  have hT := fun w h => specTenantsOk L (.slice ad L.length cap) w h
  have hAt := fun w h => specAtT L name (.slice ad L.length cap) w h hL
  have hX : Below w.heap.size w (w.alloc (.cells #[.string ⟨#[]⟩, .string ⟨#[]⟩, .slice none 0 0, .int .i64 0] 32)) := (Below.refl _ _).alloc (Nat.le_refl _) _
  have RX := hide (rowIs_new w 32 [.string ⟨#[]⟩, .string ⟨#[]⟩, .slice none 0 0, .int .i64 0])
  have HX := hide hX
  clear hX
  go_enter Tryz.func12, Tryz.ntmps12
  go_wp2_with fail
  generalize w.alloc (.cells #[.string ⟨#[]⟩, .string ⟨#[]⟩, .slice none 0 0, .int .i64 0] 32) = W at *
  refine (hAt _ (HR.out.new HX.out)).mono ?_; rintro e w1 ⟨rfl, hb1⟩
  replace RX := hide (RX.out.new hb1)
  replace HX := hide (bchain HX.out hb1)
  clear hb1 hAt
  obtain ⟨z, hz⟩ : ∃ z, atV L name = z := ⟨_, rfl⟩
  rw [hz]
  have HZ := hide hz
  clear hz
  go_wp2_with fail
  refine (hT _ (HR.out.new HX.out)).mono ?_
  cases h0 : okTs L
  · rintro e w2 ⟨rfl, hb2⟩
    have HE : Hid (((⟨an, ak, al, aq⟩ : TenantD), ab) = (zTn, false)) := by show _ = _; rw [← HA.out]; unfold tenantV; rw [if_neg (by rw [h0]; simp)]
    obtain ⟨e1, rfl⟩ := Prod.mk.inj HE.out
    simp only [zTn, TenantD.mk.injEq] at e1
    obtain ⟨rfl, rfl, rfl, rfl⟩ := e1
    replace RX := hide (RX.out.new hb2)
    replace HX := hide (bchain HX.out hb2)
    clear hb2 hT HE
    have r0 := RX.out.cell (j := 0) rfl
    have r1 := RX.out.cell (j := 1) rfl
    have r2 := RX.out.cell (j := 2) rfl
    have r3 := RX.out.cell (j := 3) rfl
    have r9 := fun q => RX.out.frozen q
    have rl := RX.out.lt
    go_wp2_with fail
    refine bodyPost_ret (v := (.tuple #[.agg #[.string ⟨#[]⟩, .string ⟨#[]⟩, .slice none 0 0, .int .i64 0], .bool false])) (by simp [results, Tryz.results12, go_sem, *]) rfl ?_
    exact ⟨_, rfl, owX_nil _ _ _, by repeat' (first | (with_reducible exact HX.out) | (with_reducible refine Below.setCell ?_ ?_ _) | (with_reducible refine Below.alloc ?_ ?_ _) | (with_reducible refine Below.drew ?_) | (with_reducible refine bo_drewN _ ?_) | omega | (simp; done) | (simp; omega))⟩
  rintro e w2 ⟨rfl, hb2⟩
  replace RX := hide (RX.out.new hb2)
  replace HX := hide (bchain HX.out hb2)
  clear hb2 hT
  by_cases hz0 : z < 0
  · have HE : Hid (((⟨an, ak, al, aq⟩ : TenantD), ab) = (zTn, false)) := by show _ = _; rw [← HA.out]; unfold tenantV; rw [if_neg (by rw [HZ.out]; omega)]
    obtain ⟨e1, rfl⟩ := Prod.mk.inj HE.out
    simp only [zTn, TenantD.mk.injEq] at e1
    obtain ⟨rfl, rfl, rfl, rfl⟩ := e1
    clear HE h0
    have r0 := RX.out.cell (j := 0) rfl
    have r1 := RX.out.cell (j := 1) rfl
    have r2 := RX.out.cell (j := 2) rfl
    have r3 := RX.out.cell (j := 3) rfl
    have r9 := fun q => RX.out.frozen q
    have rl := RX.out.lt
    go_wp2_with fail
    refine bodyPost_ret (v := (.tuple #[.agg #[.string ⟨#[]⟩, .string ⟨#[]⟩, .slice none 0 0, .int .i64 0], .bool false])) (by simp [results, Tryz.results12, go_sem, *]) rfl ?_
    exact ⟨_, rfl, owX_nil _ _ _, by repeat' (first | (with_reducible exact HX.out) | (with_reducible refine Below.setCell ?_ ?_ _) | (with_reducible refine Below.alloc ?_ ?_ _) | (with_reducible refine Below.drew ?_) | (with_reducible refine bo_drewN _ ?_) | omega | (simp; done) | (simp; omega))⟩
  obtain ⟨k, hk, hzk, _⟩ := at_found (L := L) (name := name) (by rw [HZ.out]; omega)
  have hzk' : z = k := HZ.out.symm.trans hzk
  subst hzk'
  have HE : Hid (((⟨an, ak, al, aq⟩ : TenantD), ab) = (tn L k, true)) := by show _ = _; rw [← HA.out]; unfold tenantV; rw [if_pos ⟨h0, by rw [HZ.out]; omega⟩, HZ.out]; simp
  obtain ⟨e1, rfl⟩ := Prod.mk.inj HE.out
  have HCP := hide (fun w h => specCopy15 L (.slice ad L.length cap) w h h0)
  have HE1 := hide e1
  have hkI : (k : Int) < L.length := by omega
  clear h0 HE e1 hzk HA
  go_wp2_with fail
  refine (HCP.out _ (HR.out.new HX.out)).mono ?_; rintro e w3 ⟨v3, rfl, ho3, hb3⟩
  obtain ⟨a3, p3, rfl, q1, q2⟩ := ho3.form
  obtain ⟨b, o, as_, ps, rfl, hbw, c0, c1, c2, c3, hos⟩ := ten_own ho3 hk
  rw [← HE1.out] at c0 c1 c2 c3 hos
  dsimp only at c0 c1 c2 c3 hos
  have hwl0 := RX.out.lt
  replace RX := hide (RX.out.new hb3)
  have hs3 := HX.out.size
  replace HX := hide (bchain HX.out hb3)
  have HOS := hide hos
  have hgl := RX.out.lt
  clear hos ho3 HCP HE1
  have r0 := RX.out.cell (j := 0) rfl
  have r1 := RX.out.cell (j := 1) rfl
  have r2 := RX.out.cell (j := 2) rfl
  have r3 := RX.out.cell (j := 3) rfl
  have r9 := fun q => RX.out.frozen q
  go_wp2_with fail
  refine bodyPost_ret (v := (.tuple #[.agg #[.string an, .string ak, .slice as_ al.length ps, .int .i64 aq], .bool true])) (by simp [results, Tryz.results12, go_sem, *]) rfl ?_
  refine ⟨_, rfl, ?_, by repeat' (first | (with_reducible exact HX.out) | (with_reducible refine Below.setCell ?_ ?_ _) | (with_reducible refine Below.alloc ?_ ?_ _) | (with_reducible refine Below.drew ?_) | (with_reducible refine bo_drewN _ ?_) | omega | (simp; done) | (simp; omega))⟩
  refine (OwX.wide (lo := w2.heap.size) (hi := w3.heap.size) (lo' := w.heap.size) (hi' := w3.heap.size) ?_ (by omega) (Nat.le_refl _)).top
  have hwl : w.heap.size < w2.heap.size := hwl0
  (repeat' (first | (with_reducible exact HOS.out) | (with_reducible refine OwX.far ?_ _ _ ?_) | (simp; done) | (simp; omega)))
end Go.Proofs.YtfemmnhfllbgjaaGreatDoor
