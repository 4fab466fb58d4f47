/- Several small texts of one level, one behind the other. -/
import Derived.Test.YtfemmnhfllbgjaaGreatDoorQG11
import Derived.Test.YtfemmnhfllbgjaaGreatDoorQG5
import Derived.Test.YtfemmnhfllbgjaaGreatDoorQG6
import Derived.Deep.RegionHeld3
import Derived.Deep.LoopGhost
import Derived.WalkMore
/- Chapter 15's model: a copy of a list of tenants, and who is found in it. -/
namespace Go.Proofs.YtfemmnhfllbgjaaGreatDoor
open Go.RowKit
set_option maxRecDepth 100000
set_option linter.unusedSimpArgs false
set_option linter.unusedVariables false
set_option maxHeartbeats 4000000 in
theorem specCopy15 (L : List TenantD) (v : Value) (w : World) (hr : RdR tenantS w v L) (hok : okTs L = true) :
    Calls Tryz.prog 36 #[v] w fun x w' => ∃ v', x = .returned v' ∧ OwX tenantS w' w.heap.size w'.heap.size v' L ∧ Below w.heap.size w w' := by
  obtain ⟨ad, cap, rfl, h1, h2⟩ := hr.form
  have HR := hide hr
  obtain ⟨hl8, hall⟩ := okTs_iff.1 hok
  have HALL := hide hall
  clear hr hall hok
  have hX0 : Below w.heap.size w (w.alloc (.cells #[] 32)) := (Below.refl _ _).alloc (Nat.le_refl _) _
  have HO0 : Hid (OwX tenantS (w.alloc (.cells #[] 32)) w.heap.size (w.alloc (.cells #[] 32)).heap.size (.slice (some ⟨w.heap.size, 0, none⟩) 0 0) []) := owX_empty w _ (by simp)
  have HX0 := hide hX0
  clear hX0
  go_enter Tryz.func36, Tryz.ntmps36
  go_wp2_with fail
  generalize w.alloc (.cells #[] 32) = W at *
  go_loopw [3, 4, 5] (fun s i _ wr => ∃ (k : Nat) (ab : Option Addr) (pb : Nat), i = .int .i64 (k : Int) ∧ s = .slice ab k pb ∧ k ≤ L.length ∧ Hid (OwX tenantS wr w.heap.size wr.heap.size (.slice ab k pb) (L.take k)) ∧ Hid (Below w.heap.size w wr)) (fun _ i _ _ => L.length - (intOf i).toNat)
  case atStart => exact ⟨0, _, _, rfl, rfl, Nat.zero_le _, HO0, HX0⟩
  case round =>
    clear HO0 HX0
    obtain ⟨k, ab, pb, rfl, rfl, hk, HO, HB⟩ := hrel
    by_cases hlt : k < L.length
    rotate_left
    · have hltI : ¬ (k : Int) < L.length := by omega
      obtain rfl : k = L.length := by omega
      rw [List.take_length] at HO
      go_wp2_with fail
      go_ret
      exact ⟨_, rfl, HO.out, HB.out⟩
    have hltI : (k : Int) < L.length := by omega
    obtain ⟨b, o, al, pl, rfl, hbw, c0, c1, c2, c3, f0, f1, hls, q1, q2⟩ := ten_at (HR.out.new HB.out) hlt
    have hokx := (okTn_iff.1 (HALL.out k hlt).1).2.2.1
    have HTK : Hid (L.take (k + 1) = L.take k ++ [tn L k]) := by show _ = _; rw [tn_get hlt]; exact List.take_succ_eq_append_getElem hlt
    obtain ⟨x, hx⟩ : ∃ x, tn L k = x := ⟨_, rfl⟩
    rw [hx] at c0 c1 c2 c3 f0 f1 hls q1 hokx HTK
    clear hx
    have hX : Below wr.heap.size wr (wr.alloc (.cells #[.string x.nm, .string x.key, .slice al x.list.length pl, .int .i64 x.quota] 32)) := (Below.refl _ _).alloc (Nat.le_refl _) _
    have RX := rowIs_new wr 32 [.string x.nm, .string x.key, .slice al x.list.length pl, .int .i64 x.quota]
    have hsX : wr.heap.size + 1 ≤ (wr.alloc (.cells #[.string x.nm, .string x.key, .slice al x.list.length pl, .int .i64 x.quota] 32)).heap.size := by simp
    have HLS := hide (hls.new hX)
    have HOX := hide (HO.out.new hX)
    have HBX := hide (bchain HB.out hX)
    have hsr := HB.out.size
    clear hls
    go_upto_region 6 with fail
    clear c0 c1 c2 c3 hbw HB HO hX
    generalize hge : wr.heap.size = ge at *
    clear hge
    generalize wr.alloc (.cells #[.string x.nm, .string x.key, .slice al x.list.length pl, .int .i64 x.quota] 32) = X at *
    have x2 := RX.cell (j := 2) rfl
    have xf := RX.frozen 2
    have xl := RX.lt
    have hY : Below X.heap.size X (X.alloc (.cells #[] 9)) := (Below.refl _ _).alloc (Nat.le_refl _) _
    have hoY : (X.alloc (.cells #[] 9)).ownsRow X.heap.size 9 1 (.slice (some ⟨X.heap.size, 0, none⟩) 0 0) 0 [] := owns_lit X 9 1 0 #[] rfl (by omega)
    have hrY := rd_strs (HLS.out.new hY)
    have HSMS := hide (rd_small HLS.out)
    go_wp2_with (at_builtin; go_must (refine wpList_app _ (by rfl) _ _ 30 (by rfl) 9 (.string ⟨#[]⟩) 1 16 Tryz.underlying30 (by kernel_rfl) rfl (by decide) X.heap.size _ 0 [] (by rfl) hoY _ x.list.length (x.list.map Value.string) (by rfl) hrY (sv_one15 _) (by omega) (by decide) hY.size ?_))
    intro ad7 cp7 w7 hown7 hg7 hat7
    try simp only [Nat.zero_add, List.nil_append] at hown7
    have hb7 : Below X.heap.size X w7 := hY.grown hg7 hY.size (fun k hk => (hoY.lt k hk).1)
    have R7 := RX.new hb7
    have c27 := R7.cell (j := 2) rfl
    have f27 := R7.frozen 2
    have l7 := R7.lt
    have hs7 := hb7.size
    have HRB := hide (R7.set 2 (.slice ad7 x.list.length cp7))
    have HO7 : Hid (w7.ownsRow X.heap.size 9 1 (.slice ad7 x.list.length cp7) x.list.length (x.list.map Value.string)) := hown7
    have HO8 := hide (owns_apart HO7.out ⟨ge, 2, none⟩ (.slice ad7 x.list.length cp7) (fun e => by have := (HO7.out.lt _ e).1; simp at this; omega))
    have HOX8 := hide ((HOX.out.new hb7).far ⟨ge, 2, none⟩ (.slice ad7 x.list.length cp7) (.inr (Nat.le_refl _)))
    have HB8 := hide ((bchain HBX.out hb7).setCell (p := ⟨ge, 2, none⟩) (show w.heap.size ≤ ge by omega) (.slice ad7 x.list.length cp7))
    have hs8 : ge + 1 ≤ (w7.setCell ⟨ge, 2, none⟩ (.slice ad7 x.list.length cp7)).heap.size := by simp; omega
    clear hown7 hg7 hat7 hoY hrY hY HO7 HOX HBX HLS RX x2 xf xl R7
    try rw [Nat.zero_add]
    go_upto_region 7 with fail
    clear c27 f27 l7 hb7
    generalize w7.setCell ⟨ge, 2, none⟩ (.slice ad7 x.list.length cp7) = V at *
    have y0 := HRB.out.cell (j := 0) rfl
    have y1 := HRB.out.cell (j := 1) rfl
    have y2 := HRB.out.cell (j := 2) rfl
    have y3 := HRB.out.cell (j := 3) rfl
    have yl := HRB.out.lt
    have hZ : Below V.heap.size V (V.alloc (.cells #[.string x.nm, .string x.key, .slice ad7 x.list.length cp7, .int .i64 x.quota] 32)) := (Below.refl _ _).alloc (Nat.le_refl _) _
    have RZ := rowIs_new V 32 [.string x.nm, .string x.key, .slice ad7 x.list.length cp7, .int .i64 x.quota]
    have hrdl : Reads (V.alloc (.cells #[.string x.nm, .string x.key, .slice ad7 x.list.length cp7, .int .i64 x.quota] 32)) (.slice (some ⟨V.heap.size, 0, none⟩) 1 1) 1 4 [.string x.nm, .string x.key, .slice ad7 x.list.length cp7, .int .i64 x.quota] := ⟨by simp, _, _, rfl, Nat.le_refl _, by unfold maxLen; omega, fun _ => ⟨V.heap.size, 0, rfl, RZ.lt, fun r y hy => by simpa using RZ.cell hy⟩⟩
    have hone : ∀ y ∈ ([.string x.nm, .string x.key, .slice ad7 x.list.length cp7, .int .i64 x.quota] : List Value), y.oneCell' = true := by intro y hy; simp at hy; rcases hy with rfl | rfl | rfl | rfl <;> rfl
    have HBZ := hide (bchain HB8.out hZ)
    have hsZ := hZ.size
    have hlk : (L.take k).length = k := by rw [List.length_take]; omega
    obtain ⟨xs, hoz, hgrow⟩ := (HOX8.out.new hZ).grow (by omega) (by omega)
    rw [hlk] at hoz hgrow
    have hoe : OwE tenantS (V.alloc (.cells #[.string x.nm, .string x.key, .slice ad7 x.list.length cp7, .int .i64 x.quota] 32)) ge (V.alloc (.cells #[.string x.nm, .string x.key, .slice ad7 x.list.length cp7, .int .i64 x.quota] 32)).heap.size [.string x.nm, .string x.key, .slice ad7 x.list.length cp7, .int .i64 x.quota] x := by
      have h9 := strs_owr (owns_base (owns_new HO8.out hZ) (fun _ _ => Nat.zero_le _)) HSMS.out
      refine ⟨_, ⟨_, _, rfl, f0, f1, h9, rfl⟩, opt_nodup _, fun y hy => ⟨?_, h9.lt y hy⟩⟩
      cases hq : (Value.slice ad7 x.list.length cp7).ownBlock with
      | none => rw [hq] at hy; cases hy
      | some z => rw [hq] at hy; simp at hy; subst hy; have := (HO8.out.lt y hq).1; omega
    have HGR := hide (fun w1 v' h1 h2 h3 => hgrow w1 v' _ x hoe h1 h2 h3)
    have hbo : ∀ q, (Value.slice ab k pb).ownBlock = some q → w.heap.size ≤ q := fun q hq => (HOX8.out.own q hq).1
    have HBO := hide hbo
    clear hgrow hoe RZ HOX8 HO8 HB8 hZ hbo
    go_wp2_with (at_builtin; go_must (refine wpList_app _ (by rfl) _ _ 24 (by rfl) 32 (.agg #[.string ⟨#[]⟩, .string ⟨#[]⟩, .slice none 0 0, .int .i64 0]) 4 64 Tryz.underlying24 (by kernel_rfl) rfl (by decide) 0 _ k xs (by rfl) hoz _ 1 _ (by rfl) hrdl hone (by omega) (by decide) (Nat.zero_le _) ?_))
    intro ad9 cp9 w9 hown9 hg9 hat9
    have HO9 := hide (HGR.out w9 _ hown9 hg9 (hat9.imp id (fun h => by rw [h]; simp)))
    have HB9 := hide (HBZ.out.grown hg9 (by omega) (fun q hq => HBO.out q hq))
    rw [← HTK.out] at HO9
    clear hown9 hg9 hat9 HGR HBZ HBO hoz hrdl hone y0 y1 y2 y3 yl HRB
    go_wp2_with fail
    go_roundw
    case rel => exact ⟨k + 1, ad9, cp9, by go_num, rfl, by omega, HO9, HB9⟩
    case measure => simp [intOf]; omega
/-- One tenant out of a row that is owned: its list is owned. -/
theorem ten_own {w : World} {lo hi : Nat} {ad : Option Addr} {n cap k : Nat} {L : List TenantD} (h : OwX tenantS w lo hi (.slice ad n cap) L) (hk : k < L.length) : ∃ b o al pl, ad = some ⟨b, o, none⟩ ∧ b < w.heap.size ∧ w.cell? ⟨b, o + k * 4, none⟩ = some (.string (tn L k).nm) ∧ w.cell? ⟨b, o + k * 4 + 1, none⟩ = some (.string (tn L k).key) ∧ w.cell? ⟨b, o + k * 4 + 2, none⟩ = some (.slice al (tn L k).list.length pl) ∧ w.cell? ⟨b, o + k * 4 + 3, none⟩ = some (.int .i64 (tn L k).quota) ∧ OwX strS w lo hi (.slice al (tn L k).list.length pl) (tn L k).list := by
  rw [tn_get hk]
  obtain ⟨bs, hO, hn, hb⟩ := h
  obtain ⟨g, cap', cs, b, he, hgl, hgm, hgb, hbs, hbn, hown, hcell, _⟩ := hO.put hn k hk
  simp only [Value.slice.injEq] at he
  obtain ⟨rfl, -, rfl⟩ := he
  obtain ⟨vl, b0, rfl, f0, f1, hls, rfl⟩ := hown
  obtain ⟨al, pl, rfl, q1, q2⟩ := hls.rd.form
  exact ⟨g, 0, al, pl, rfl, hgl, by rw [Nat.zero_add]; exact hcell 0 _ rfl, by rw [Nat.zero_add]; exact hcell 1 _ rfl, by rw [Nat.zero_add]; exact hcell 2 _ rfl, by rw [Nat.zero_add]; exact hcell 3 _ rfl, _, hls, hbn, fun y hy => hb y (hbs y hy)⟩
set_option maxHeartbeats 2000000 in
theorem specTenantOf (L : List TenantD) (name : ByteArray) (v : Value) (w : World) (hr : RdR tenantS w v L) (hL : L.length ≤ 1048576) :
    Calls Tryz.prog 12 #[v, .string name] w fun x w' => ∃ vl, x = .returned (.tuple #[.agg #[.string (tenantV L name).1.nm, .string (tenantV L name).1.key, vl, .int .i64 (tenantV L name).1.quota], .bool (tenantV L name).2]) ∧ OwX strS w' w.heap.size w'.heap.size vl (tenantV L name).1.list ∧ Below w.heap.size w w' := by
  obtain ⟨ad, cap, rfl, h1, h2⟩ := hr.form
  obtain ⟨⟨⟨an, ak, al, aq⟩, ab⟩, hA⟩ : ∃ A, tenantV L name = A := ⟨_, rfl⟩
  rw [hA]
  dsimp only
  have HA := hide hA
  have HR := hide hr
  clear hA hr
  have hT := fun w h => specTenantsOk L (.slice ad L.length cap) w h
  have hAt := fun w h => specAtT L name (.slice ad L.length cap) w h hL
  have hX : Below w.heap.size w (w.alloc (.cells #[.string ⟨#[]⟩, .string ⟨#[]⟩, .slice none 0 0, .int .i64 0] 32)) := (Below.refl _ _).alloc (Nat.le_refl _) _
  have RX := hide (rowIs_new w 32 [.string ⟨#[]⟩, .string ⟨#[]⟩, .slice none 0 0, .int .i64 0])
  have HX := hide hX
  clear hX
  go_enter Tryz.func12, Tryz.ntmps12
  go_wp2_with fail
  generalize w.alloc (.cells #[.string ⟨#[]⟩, .string ⟨#[]⟩, .slice none 0 0, .int .i64 0] 32) = W at *
  refine (hAt _ (HR.out.new HX.out)).mono ?_; rintro e w1 ⟨rfl, hb1⟩
  replace RX := hide (RX.out.new hb1)
  replace HX := hide (bchain HX.out hb1)
  clear hb1 hAt
  obtain ⟨z, hz⟩ : ∃ z, atV L name = z := ⟨_, rfl⟩
  rw [hz]
  have HZ := hide hz
  clear hz
  go_wp2_with fail
  refine (hT _ (HR.out.new HX.out)).mono ?_
  cases h0 : okTs L
  · rintro e w2 ⟨rfl, hb2⟩
    have HE : Hid (((⟨an, ak, al, aq⟩ : TenantD), ab) = (zTn, false)) := by show _ = _; rw [← HA.out]; unfold tenantV; rw [if_neg (by rw [h0]; simp)]
    obtain ⟨e1, rfl⟩ := Prod.mk.inj HE.out
    simp only [zTn, TenantD.mk.injEq] at e1
    obtain ⟨rfl, rfl, rfl, rfl⟩ := e1
    replace RX := hide (RX.out.new hb2)
    replace HX := hide (bchain HX.out hb2)
    clear hb2 hT HE
    have r0 := RX.out.cell (j := 0) rfl
    have r1 := RX.out.cell (j := 1) rfl
    have r2 := RX.out.cell (j := 2) rfl
    have r3 := RX.out.cell (j := 3) rfl
    have r9 := fun q => RX.out.frozen q
    have rl := RX.out.lt
    go_wp2_with fail
    refine bodyPost_ret (v := (.tuple #[.agg #[.string ⟨#[]⟩, .string ⟨#[]⟩, .slice none 0 0, .int .i64 0], .bool false])) (by simp [results, Tryz.results12, go_sem, *]) rfl ?_
    exact ⟨_, rfl, owX_nil _ _ _, by repeat' (first | (with_reducible exact HX.out) | (with_reducible refine Below.setCell ?_ ?_ _) | (with_reducible refine Below.alloc ?_ ?_ _) | (with_reducible refine Below.drew ?_) | (with_reducible refine bo_drewN _ ?_) | omega | (simp; done) | (simp; omega))⟩
  rintro e w2 ⟨rfl, hb2⟩
  replace RX := hide (RX.out.new hb2)
  replace HX := hide (bchain HX.out hb2)
  clear hb2 hT
  by_cases hz0 : z < 0
  · have HE : Hid (((⟨an, ak, al, aq⟩ : TenantD), ab) = (zTn, false)) := by show _ = _; rw [← HA.out]; unfold tenantV; rw [if_neg (by rw [HZ.out]; omega)]
    obtain ⟨e1, rfl⟩ := Prod.mk.inj HE.out
    simp only [zTn, TenantD.mk.injEq] at e1
    obtain ⟨rfl, rfl, rfl, rfl⟩ := e1
    clear HE h0
    have r0 := RX.out.cell (j := 0) rfl
    have r1 := RX.out.cell (j := 1) rfl
    have r2 := RX.out.cell (j := 2) rfl
    have r3 := RX.out.cell (j := 3) rfl
    have r9 := fun q => RX.out.frozen q
    have rl := RX.out.lt
    go_wp2_with fail
    refine bodyPost_ret (v := (.tuple #[.agg #[.string ⟨#[]⟩, .string ⟨#[]⟩, .slice none 0 0, .int .i64 0], .bool false])) (by simp [results, Tryz.results12, go_sem, *]) rfl ?_
    exact ⟨_, rfl, owX_nil _ _ _, by repeat' (first | (with_reducible exact HX.out) | (with_reducible refine Below.setCell ?_ ?_ _) | (with_reducible refine Below.alloc ?_ ?_ _) | (with_reducible refine Below.drew ?_) | (with_reducible refine bo_drewN _ ?_) | omega | (simp; done) | (simp; omega))⟩
  obtain ⟨k, hk, hzk, _⟩ := at_found (L := L) (name := name) (by rw [HZ.out]; omega)
  have hzk' : z = k := HZ.out.symm.trans hzk
  subst hzk'
  have HE : Hid (((⟨an, ak, al, aq⟩ : TenantD), ab) = (tn L k, true)) := by show _ = _; rw [← HA.out]; unfold tenantV; rw [if_pos ⟨h0, by rw [HZ.out]; omega⟩, HZ.out]; simp
  obtain ⟨e1, rfl⟩ := Prod.mk.inj HE.out
  have HCP := hide (fun w h => specCopy15 L (.slice ad L.length cap) w h h0)
  have HE1 := hide e1
  have hkI : (k : Int) < L.length := by omega
  clear h0 HE e1 hzk HA
  go_wp2_with fail
  refine (HCP.out _ (HR.out.new HX.out)).mono ?_; rintro e w3 ⟨v3, rfl, ho3, hb3⟩
  obtain ⟨a3, p3, rfl, q1, q2⟩ := ho3.form
  obtain ⟨b, o, as_, ps, rfl, hbw, c0, c1, c2, c3, hos⟩ := ten_own ho3 hk
  rw [← HE1.out] at c0 c1 c2 c3 hos
  dsimp only at c0 c1 c2 c3 hos
  have hwl0 := RX.out.lt
  replace RX := hide (RX.out.new hb3)
  have hs3 := HX.out.size
  replace HX := hide (bchain HX.out hb3)
  have HOS := hide hos
  have hgl := RX.out.lt
  clear hos ho3 HCP HE1
  have r0 := RX.out.cell (j := 0) rfl
  have r1 := RX.out.cell (j := 1) rfl
  have r2 := RX.out.cell (j := 2) rfl
  have r3 := RX.out.cell (j := 3) rfl
  have r9 := fun q => RX.out.frozen q
  go_wp2_with fail
  refine bodyPost_ret (v := (.tuple #[.agg #[.string an, .string ak, .slice as_ al.length ps, .int .i64 aq], .bool true])) (by simp [results, Tryz.results12, go_sem, *]) rfl ?_
  refine ⟨_, rfl, ?_, by repeat' (first | (with_reducible exact HX.out) | (with_reducible refine Below.setCell ?_ ?_ _) | (with_reducible refine Below.alloc ?_ ?_ _) | (with_reducible refine Below.drew ?_) | (with_reducible refine bo_drewN _ ?_) | omega | (simp; done) | (simp; omega))⟩
  refine (OwX.wide (lo := w2.heap.size) (hi := w3.heap.size) (lo' := w.heap.size) (hi' := w3.heap.size) ?_ (by omega) (Nat.le_refl _)).top
  have hwl : w.heap.size < w2.heap.size := hwl0
  (repeat' (first | (with_reducible exact HOS.out) | (with_reducible refine OwX.far ?_ _ _ ?_) | (simp; done) | (simp; omega)))
end Go.Proofs.YtfemmnhfllbgjaaGreatDoor
/- What the laws of lists draw: lists of places. -/
namespace Go.Proofs.YtfemmnhfllbgjaaGreatDoor
open Go.RowKit
set_option maxRecDepth 100000
set_option linter.unusedSimpArgs false
set_option linter.unusedVariables false
theorem sv_one (L : List ByteArray) : ∀ u ∈ L.map Value.string, u.oneCell' = true := by
  intro u hu
  obtain ⟨z, _, rfl⟩ := List.mem_map.1 hu
  rfl
/-- A drawn list: a row of its own, apart from the cursor. -/
structure LsAt (u : World) (base g : Nat) (v : Value) (L : List ByteArray) : Prop where
  own : u.ownsRow base 9 1 v L.length (L.map Value.string)
  lt : g < base
  small : ∀ x ∈ L, x.size ≤ 61
theorem LsAt.new {u u' : World} {base g : Nat} {v : Value} {L : List ByteArray} (h : LsAt u base g v L) (hb : Below u.heap.size u u') : LsAt u' base g v L := ⟨owns_new h.own hb, h.lt, h.small⟩
theorem LsAt.moves {u u' : World} {base g : Nat} {v : Value} {L : List ByteArray} (h : LsAt u base g v L) (hm : Moves g u u') : LsAt u' base g v L := ⟨owns_moves h.own hm h.lt, h.lt, h.small⟩
theorem LsAt.owx {u : World} {base g : Nat} {v : Value} {L : List ByteArray} (h : LsAt u base g v L) : OwX strS u base u.heap.size v L := strs_ow h.own (fun x hx => by have := h.small x hx; omega)
theorem moves_grown {g : Nat} {w X Y : World} {row : Option Nat} (h : Moves g w X) (hg : X.grownBy Y row) (hr : ∀ k, row = some k → w.heap.size ≤ k) : Moves g w Y :=
  ⟨hg.os.trans h.os, hg.tape.trans h.tape, hg.output.trans h.output, Nat.le_trans h.size hg.size, fun k hk hne => (hg.block k (Nat.lt_of_lt_of_le hk h.size) (fun e => by have := hr k e.symm; omega)).trans (h.block k hk hne)⟩
theorem cur_grown {g B : Nat} {X Y : World} {row : Option Nat} (h : Cur X g B) (hg : X.grownBy Y row) (hr : ∀ k, row = some k → g < k) : Cur Y g B :=
  h.kept ⟨hg.os, hg.tape, hg.output, hg.size, fun k hk => hg.block k (by have := h.lt; omega) (fun e => by have := hr k e.symm; omega)⟩
set_option maxRecDepth 100000 in
set_option maxHeartbeats 4000000 in
theorem drawList14 (g B : Nat) (w : World) (hc : Cur w g B) :
    Calls Tryz.prog 59 #[.pointer (some ⟨g, 0, none⟩)] w fun e w' => ∃ (v : Value) (L : List ByteArray), e = .returned v ∧ LsAt w' w.heap.size g v L ∧ L.length ≤ 21 ∧ Cur w' g B ∧ Moves g w w' := by
  have hgw := hc.lt
  go_enter Tryz.func59, Tryz.ntmps59
  go_wp2_with fail
  have hX : Below w.heap.size w (w.alloc (.cells #[] 9)) := (Below.refl _ _).alloc (Nat.le_refl _) _
  have HL0 : Hid (LsAt (w.alloc (.cells #[] 9)) w.heap.size g (.slice (some ⟨w.heap.size, 0, none⟩) 0 0) []) := ⟨owns_lit w 9 1 0 #[] rfl (by omega), hgw, by simp⟩
  have HC0 := hide (hc.below hX)
  have HM0 : Hid (Moves g w (w.alloc (.cells #[] 9))) := Moves.of_below hX
  clear hX hc
  generalize w.alloc (.cells #[] 9) = W at *
  refine (below1 g B 4 _ HC0.out (by omega)).mono ?_; rintro e w1 ⟨n0, h0, h1, _, rfl, hc1, hm1⟩
  have h4 := h1 (by omega)
  obtain ⟨n, rfl⟩ : ∃ n : Nat, n0 = n := ⟨n0.toNat, by omega⟩
  have HL1 := hide (HL0.out.moves hm1)
  have HC1 := hide hc1
  have HM1 := hide (HM0.out.trans hm1)
  clear h1 hc1 hm1 HL0 HC0 HM0
  go_wp2_with fail
  go_loopw [3, 4] (fun s n wr => ∃ (k : Nat) (L : List ByteArray) (a : Option Addr) (p : Nat), n = .int .i64 (k : Int) ∧ s = .slice a L.length p ∧ k + L.length ≤ 3 ∧ Hid (LsAt wr w.heap.size g (.slice a L.length p) L) ∧ Hid (Cur wr g B) ∧ Hid (Moves g w wr)) (fun _ n _ => (intOf n).toNat)
  case atStart => exact ⟨n, [], _, _, rfl, rfl, by simp; omega, HL1, HC1, HM1⟩
  case round =>
    clear HL1 HC1 HM1
    obtain ⟨k, L, a, p, rfl, rfl, hkL, HL, HC, HM⟩ := hrel
    by_cases hk : 0 < k
    · have hkI : (0 : Int) < k := by omega
      have hgr := HC.out.lt
      have hsr := HM.out.size
      obtain ⟨VA, hVA⟩ : ∃ V, wr.alloc (.cells #[.string ⟨#[97, 46, 120]⟩, .string ⟨#[42, 46, 121]⟩, .string ⟨#[98, 46, 121]⟩, .string ⟨#[42]⟩, .string ⟨#[]⟩] 9) = V := ⟨_, rfl⟩
      have RA : RowIs VA wr.heap.size 9 [.string ⟨#[97, 46, 120]⟩, .string ⟨#[42, 46, 121]⟩, .string ⟨#[98, 46, 121]⟩, .string ⟨#[42]⟩, .string ⟨#[]⟩] := by rw [← hVA]; exact rowIs_new wr _ _
      have hbA : Below wr.heap.size wr VA := by rw [← hVA]; exact (Below.refl _ _).alloc (Nat.le_refl _) _
      go_wp2_with fail
      (try rw [hVA])
      clear hVA
      refine (below1 g B 5 _ (HC.out.below hbA) (by omega)).mono ?_; rintro e w2 ⟨q, q0, q1, _, rfl, hc2, hm2⟩
      have q6 := q1 (by omega)
      replace RA := RA.moves hm2 (by omega)
      obtain ⟨qn, rfl⟩ : ∃ n : Nat, q = n := ⟨q.toNat, by omega⟩
      obtain ⟨z, hz0, hz⟩ : ∃ z : ByteArray, z.size ≤ 61 ∧ w2.cell? ⟨wr.heap.size, qn, none⟩ = some (.string z) := by
        have : qn = 0 ∨ qn = 1 ∨ qn = 2 ∨ qn = 3 ∨ qn = 4 := by omega
        rcases this with rfl | rfl | rfl | rfl | rfl <;> exact ⟨_, by decide, RA.cell rfl⟩
      have hlA := RA.lt
      have HL2 := hide ((HL.out.new hbA).moves hm2)
      have HM2 := hide ((HM.out.trans (Moves.of_below hbA)).trans hm2)
      have hX : Below w2.heap.size w2 (w2.alloc (.cells #[.string z] 9)) := (Below.refl _ _).alloc (Nat.le_refl _) _
      have HOX := hide (owns_new HL2.out.own hX)
      have HRX : Hid (Reads (w2.alloc (.cells #[.string z] 9)) (.slice (some ⟨w2.heap.size, 0, none⟩) 1 1) 1 1 [.string z]) := reads_of_owns (owns_lit w2 9 1 1 #[.string z] rfl (by omega))
      have hsX : w.heap.size ≤ (w2.alloc (.cells #[.string z] 9)).heap.size := by have := HM2.out.size; simp; omega
      have HC2 := hide (hc2.below hX)
      have HMX := hide (HM2.out.trans (Moves.of_below hX))
      have HSM : Hid (∀ y ∈ L ++ [z], y.size ≤ 61) := fun y hy => by
        rcases List.mem_append.1 hy with h | h
        · exact HL.out.small y h
        · simp at h; subst h; exact hz0
      clear q1 RA hbA hm2 HL HC HM HL2 HM2 hX hc2
      go_wp2_with (at_builtin; go_must (refine wpList_app _ (by rfl) _ _ 30 (by rfl) 9 (.string ⟨#[]⟩) 1 16 Tryz.underlying30 (by kernel_rfl) rfl (by decide) w.heap.size _ L.length (L.map Value.string) (by rfl) HOX.out _ 1 [.string z] (by rfl) HRX.out (sv_one [z]) (by omega) (by decide) hsX ?_))
      intro ad7 cp7 w7 hown7 hg7 hat7
      have HM7 := hide (moves_grown HMX.out hg7 (fun k hk => (HOX.out.lt k hk).1))
      have HC7 := hide (cur_grown HC2.out hg7 (fun k hk => by have := (HOX.out.lt k hk).1; omega))
      have HL7 : Hid (LsAt w7 w.heap.size g (.slice ad7 (L ++ [z]).length cp7) (L ++ [z])) := ⟨by rw [List.map_append, List.length_append]; exact hown7, hgw, HSM.out⟩
      clear hown7 hg7 hat7 HMX HC2 HOX HRX hsX hz hlA hsr hgr
      go_wp2_with fail
      go_roundw
      case rel => exact ⟨k - 1, L ++ [z], ad7, cp7, int_eq (by omega), by rw [List.length_append]; rfl, by simp; omega, HL7, HC7, HM7⟩
      case measure => simp [intOf]; omega
    · have hkI : ¬ (0 : Int) < k := by omega
      go_wp2_with fail
      refine (once1 g B 20 _ HC.out (by omega)).mono ?_; rintro e w3 ⟨b, rfl, hc3, hm3⟩
      have HL3 := hide (HL.out.moves hm3)
      have HM3 := hide (HM.out.trans hm3)
      have HC3 := hide hc3
      clear HL HC HM hc3 hm3
      cases b
      · go_wp2_with fail
        go_ret
        exact ⟨_, L, rfl, HL3.out, by omega, HC3.out, HM3.out⟩
      go_wp2_with fail
      refine (below1 g B 2 _ HC3.out (by omega)).mono ?_; rintro e w4 ⟨m, m0, m1, _, rfl, hc4, hm4⟩
      have m2 := m1 (by omega)
      have HL4 := hide (HL3.out.moves hm4)
      have HM4 := hide (HM3.out.trans hm4)
      have HC4 := hide hc4
      clear HL3 HC3 HM3 hc4 hm4 m1
      have hm01 : m = 0 ∨ m = 1 := by omega
      rcases hm01 with rfl | rfl
      · go_wp2_with fail
        refine (below1 g B 2 _ HC4.out (by omega)).mono ?_; rintro e w5 ⟨q, q0, q1, _, rfl, hc5, hm5⟩
        have q2 := q1 (by omega)
        obtain ⟨qn, rfl⟩ : ∃ n : Nat, q = n := ⟨q.toNat, by omega⟩
        obtain ⟨M, hMs, hML, hmk⟩ := make_strs (20 + qn) (by omega)
        have hmk' : ∀ X : World, (Instr.makeSlice 30 (.int .i64 (20 + (qn : Int))) (.int .i64 (20 + (qn : Int)))).run Tryz.prog X = .ok (.slice (some ⟨X.heap.size, 0, none⟩) (20 + qn) (20 + qn)) (X.alloc (.cells M 9)) := fun X => by have := hmk X; rw [show ((20 + qn : Nat) : Int) = 20 + (qn : Int) by omega] at this; exact this
        have hX : Below w5.heap.size w5 (w5.alloc (.cells M 9)) := (Below.refl _ _).alloc (Nat.le_refl _) _
        have HMX := hide ((HM4.out.trans hm5).trans (Moves.of_below hX))
        have HCX := hide (hc5.below hX)
        have hs5 := (HM4.out.trans hm5).size
        have HLX : Hid (LsAt (w5.alloc (.cells M 9)) w.heap.size g (.slice (some ⟨w5.heap.size, 0, none⟩) (20 + qn) (20 + qn)) (List.replicate (20 + qn) ⟨#[]⟩)) := by
          have h9 := owns_lit w5 9 1 (20 + qn) M (by omega) (by omega)
          rw [hML] at h9
          exact ⟨by rw [List.length_replicate, List.map_replicate]; exact owns_base h9 (fun k hk => by have := (h9.lt k hk).1; omega), hgw, fun x hx => by rw [List.eq_of_mem_replicate hx]; decide⟩
        have HLL : Hid ((List.replicate (20 + qn) (⟨#[]⟩ : ByteArray)).length ≤ 21) := by show _ ≤ 21; rw [List.length_replicate]; omega
        clear hmk hML hMs hc5 hm5 HL4 HC4 HM4 hX q1
        go_wp2_with fail
        go_ret
        exact ⟨_, _, rfl, HLX.out, HLL.out, HCX.out, HMX.out⟩
      · go_wp2_with fail
        refine (below1 g B 2 _ HC4.out (by omega)).mono ?_; rintro e w5 ⟨q, q0, q1, _, rfl, hc5, hm5⟩
        have q2 := q1 (by omega)
        obtain ⟨qn, rfl⟩ : ∃ n : Nat, q = n := ⟨q.toNat, by omega⟩
        obtain ⟨M, hMs, hML, hmk⟩ := make_bytesF (60 + qn) (by omega)
        have hmk' : ∀ X : World, (Instr.makeSlice 22 (.int .i64 (60 + (qn : Int))) (.int .i64 (60 + (qn : Int)))).run Tryz.prog X = .ok (.slice (some ⟨X.heap.size, 0, none⟩) (60 + qn) (60 + qn)) (X.alloc (.cells M 5)) := fun X => by have := hmk X; rw [show ((60 + qn : Nat) : Int) = 60 + (qn : Int) by omega] at this; exact this
        have hX1 : Below w5.heap.size w5 (w5.alloc (.cells M 5)) := (Below.refl _ _).alloc (Nat.le_refl _) _
        have hmd := madeB_of (u := w5) hMs hML hc5.lt (by omega)
        obtain ⟨z, hzs, hcv⟩ := hmd.text
        have HL5 := hide ((HL4.out.moves hm5).new hX1)
        have HM5 := hide ((HM4.out.trans hm5).trans (Moves.of_below hX1))
        have HC5 := hide (hc5.below hX1)
        have hz0 : z.size ≤ 61 := by omega
        clear hmk hML hMs hc5 hm5 HL4 HC4 HM4 q1 hmd hX1 hzs
        obtain ⟨V, hV⟩ : ∃ V, w5.alloc (.cells M 5) = V := ⟨_, rfl⟩
        rw [hV] at HL5 HM5 HC5 hcv
        have hX : Below V.heap.size V (V.alloc (.cells #[.string z] 9)) := (Below.refl _ _).alloc (Nat.le_refl _) _
        have HOX := hide (owns_new HL5.out.own hX)
        have HRX : Hid (Reads (V.alloc (.cells #[.string z] 9)) (.slice (some ⟨V.heap.size, 0, none⟩) 1 1) 1 1 [.string z]) := reads_of_owns (owns_lit V 9 1 1 #[.string z] rfl (by omega))
        have hsX : w.heap.size ≤ (V.alloc (.cells #[.string z] 9)).heap.size := by have := HM5.out.size; simp; omega
        have HCX := hide (HC5.out.below hX)
        have HMX := hide (HM5.out.trans (Moves.of_below hX))
        have HSM : Hid (∀ y ∈ L ++ [z], y.size ≤ 61) := fun y hy => by
          rcases List.mem_append.1 hy with h | h
          · exact HL5.out.small y h
          · simp at h; subst h; exact hz0
        clear HL5 HM5 HC5 hX
        go_wp2_with (at_builtin; go_must (refine wpList_app _ (by rfl) _ _ 30 (by rfl) 9 (.string ⟨#[]⟩) 1 16 Tryz.underlying30 (by kernel_rfl) rfl (by decide) w.heap.size _ L.length (L.map Value.string) (by rfl) HOX.out _ 1 [.string z] (by rfl) HRX.out (sv_one [z]) (by omega) (by decide) hsX ?_))
        intro ad7 cp7 w7 hown7 hg7 hat7
        have HM7 := hide (moves_grown HMX.out hg7 (fun k hk => (HOX.out.lt k hk).1))
        have HC7 := hide (cur_grown HCX.out hg7 (fun k hk => by have := (HOX.out.lt k hk).1; omega))
        have HL7 : Hid (LsAt w7 w.heap.size g (.slice ad7 (L.length + 1) cp7) (L ++ [z])) := ⟨by rw [List.map_append, List.length_append]; exact hown7, hgw, HSM.out⟩
        clear hown7 hg7 hat7 HMX HCX HOX HRX hsX hcv hV
        go_wp2_with fail
        go_ret
        exact ⟨_, L ++ [z], rfl, HL7.out, by simp; omega, HC7.out, HM7.out⟩
end Go.Proofs.YtfemmnhfllbgjaaGreatDoor
/- Chapter 15's program, its small words: a right tenant, which name is below, how many are right, whether they rise, whether all are right. -/
namespace Go.Proofs.YtfemmnhfllbgjaaGreatDoor
open Go.RowKit
set_option maxRecDepth 100000
set_option linter.unusedSimpArgs false
set_option linter.unusedVariables false
set_option maxHeartbeats 2000000 in
theorem implTRight (d : TenantD) (a : Option Addr) (p : Nat) (w : World) (hl : RdR strS w (.slice a d.list.length p) d.list) (hf0 : d.nm.size ≤ 9223372036854775807) (hf1 : d.key.size ≤ 9223372036854775807) : Calls Tryz.prog 42 #[.agg #[.string d.nm, .string d.key, .slice a d.list.length p, .int .i64 d.quota]] w fun x w' => x = .returned (.bool (okTn d)) ∧ Below w.heap.size w w' := by
  rw [okTn_way]
  have hN := fun w => implName d.nm w (by unfold maxLen; exact hf0)
  have hK := fun w => implWithin (d.key.size : Int) 1 40 w
  have hQ := fun w => implWithin d.quota 0 20 w
  have HP : Hid (∀ w' : World, Below w.heap.size w w' → Calls Tryz.prog 47 #[.slice a d.list.length p] w' fun x w2 => x = .returned (.bool (plcB d.list)) ∧ w2 = w') := fun w' hb => implPlaces d.list _ w' (rd_strs (hl.new hb)) (fun x hx => by unfold maxLen; exact rd_small hl x hx)
  obtain ⟨_, _, hq, _, _⟩ := hl.form
  simp only [Value.slice.injEq] at hq
  clear hq hl
  cases h0 : nameB d.nm
  · rw [h0] at hN
    go_enter Tryz.func42, Tryz.ntmps42
    go_wp2_with fail
    refine (hN _).mono ?_; rintro e w1 ⟨rfl, hsame⟩; obtain rfl := hsame.symm; clear hsame
    go_wp2_with fail
    go_ret
    exact ⟨rfl, (by repeat' (first | (with_reducible exact Below.refl _ _) | (with_reducible refine Below.drew ?_) | (with_reducible refine bo_drewN _ ?_) | (with_reducible refine bo_alloc ?_ _) | (refine bchain ?_ (by with_reducible assumption)) | (with_reducible refine Below.setCell ?_ ?_ _) | go_size))⟩
  rw [h0] at hN
  cases h1 : inB (d.key.size : Int) 1 40
  · rw [h1] at hK
    go_enter Tryz.func42, Tryz.ntmps42
    go_wp2_with fail
    refine (hN _).mono ?_; rintro e w1 ⟨rfl, hsame⟩; obtain rfl := hsame.symm; clear hsame
    go_wp2_with fail
    refine (hK _).mono ?_; rintro e w1 ⟨rfl, hsame⟩; obtain rfl := hsame.symm; clear hsame
    go_wp2_with fail
    go_ret
    exact ⟨rfl, (by repeat' (first | (with_reducible exact Below.refl _ _) | (with_reducible refine Below.drew ?_) | (with_reducible refine bo_drewN _ ?_) | (with_reducible refine bo_alloc ?_ _) | (refine bchain ?_ (by with_reducible assumption)) | (with_reducible refine Below.setCell ?_ ?_ _) | go_size))⟩
  rw [h1] at hK
  cases h2 : plcB d.list
  · rw [h2] at HP
    go_enter Tryz.func42, Tryz.ntmps42
    go_wp2_with fail
    refine (hN _).mono ?_; rintro e w1 ⟨rfl, hsame⟩; obtain rfl := hsame.symm; clear hsame
    go_wp2_with fail
    refine (hK _).mono ?_; rintro e w1 ⟨rfl, hsame⟩; obtain rfl := hsame.symm; clear hsame
    go_wp2_with fail
    refine (HP.out _ (by repeat' (first | (with_reducible exact Below.refl _ _) | (with_reducible refine Below.drew ?_) | (with_reducible refine bo_drewN _ ?_) | (with_reducible refine bo_alloc ?_ _) | (refine bchain ?_ (by with_reducible assumption)) | (with_reducible refine Below.setCell ?_ ?_ _) | go_size))).mono ?_; rintro e w1 ⟨rfl, hsame⟩; obtain rfl := hsame.symm; clear hsame
    go_wp2_with fail
    go_ret
    exact ⟨rfl, (by repeat' (first | (with_reducible exact Below.refl _ _) | (with_reducible refine Below.drew ?_) | (with_reducible refine bo_drewN _ ?_) | (with_reducible refine bo_alloc ?_ _) | (refine bchain ?_ (by with_reducible assumption)) | (with_reducible refine Below.setCell ?_ ?_ _) | go_size))⟩
  rw [h2] at HP
  go_enter Tryz.func42, Tryz.ntmps42
  go_wp2_with fail
  refine (hN _).mono ?_; rintro e w1 ⟨rfl, hsame⟩; obtain rfl := hsame.symm; clear hsame
  go_wp2_with fail
  refine (hK _).mono ?_; rintro e w1 ⟨rfl, hsame⟩; obtain rfl := hsame.symm; clear hsame
  go_wp2_with fail
  refine (HP.out _ (by repeat' (first | (with_reducible exact Below.refl _ _) | (with_reducible refine Below.drew ?_) | (with_reducible refine bo_drewN _ ?_) | (with_reducible refine bo_alloc ?_ _) | (refine bchain ?_ (by with_reducible assumption)) | (with_reducible refine Below.setCell ?_ ?_ _) | go_size))).mono ?_; rintro e w1 ⟨rfl, hsame⟩; obtain rfl := hsame.symm; clear hsame
  go_wp2_with fail
  refine (hQ _).mono ?_; rintro e w1 ⟨rfl, hsame⟩; obtain rfl := hsame.symm; clear hsame
  go_wp2_with fail
  go_ret
  exact ⟨rfl, (by repeat' (first | (with_reducible exact Below.refl _ _) | (with_reducible refine Below.drew ?_) | (with_reducible refine bo_drewN _ ?_) | (with_reducible refine bo_alloc ?_ _) | (refine bchain ?_ (by with_reducible assumption)) | (with_reducible refine Below.setCell ?_ ?_ _) | go_size))⟩
theorem implTBelow (x y : TenantD) (a b : Option Addr) (p q : Nat) (w : World) : Calls Tryz.prog 44 #[.agg #[.string x.nm, .string x.key, .slice a x.list.length p, .int .i64 x.quota], .agg #[.string y.nm, .string y.key, .slice b y.list.length q, .int .i64 y.quota]] w fun e w' => e = .returned (.bool (Op.bytesLess x.nm.toList y.nm.toList)) ∧ Below w.heap.size w w' := by
  go_enter Tryz.func44, Tryz.ntmps44
  go_wp2_with fail
  go_ret
  exact ⟨rfl, (by repeat' (first | (with_reducible exact Below.refl _ _) | (with_reducible refine Below.drew ?_) | (with_reducible refine bo_drewN _ ?_) | (with_reducible refine bo_alloc ?_ _) | (refine bchain ?_ (by with_reducible assumption)) | (with_reducible refine Below.setCell ?_ ?_ _) | go_size))⟩
set_option maxHeartbeats 4000000 in
theorem implOnlyT (L : List TenantD) (v : Value) (fb : Nat) (w : World) (hr : RdR tenantS w v L) (hf : w.cell? ⟨fb, 0, none⟩ = some (.func (.func 42) #[] #[])) (hfl : fb < w.heap.size) (hL : L.length ≤ 8) :
    Calls Tryz.prog 41 #[v, .slice (some ⟨fb, 0, none⟩) 1 1] w fun x w' => ∃ a p, x = .returned (.slice a (numT15 L) p) ∧ numT15 L ≤ p ∧ p ≤ 9223372036854775807 ∧ Below w.heap.size w w' := by
  obtain ⟨ad, cap, rfl, h1, h2⟩ := hr.form
  have HR := hide hr
  have HF : Hid (∀ w' : World, Below w.heap.size w w' → w'.cell? ⟨fb, 0, none⟩ = some (.func (.func 42) #[] #[]) ∧ fb < w'.heap.size) := fun w' hb => ⟨(hb.cell (p := ⟨fb, 0, none⟩) hfl).trans hf, Nat.lt_of_lt_of_le hfl hb.size⟩
  clear hr hf hfl
  obtain ⟨N, hN⟩ : ∃ N, numT15 L = N := ⟨_, rfl⟩
  rw [hN]
  have HN := hide hN
  clear hN
  go_enter Tryz.func41, Tryz.ntmps41
  go_wp2_with fail
  go_step3
  go_wp2_with fail
  go_step3
  go_wp2_with fail
  go_loopg [5, 12] L.length (fun g s i wr => ∃ (k : Nat) (a : Option Addr) (p M : Nat) (xs : List Value), k + g = L.length ∧ i = .int .i64 k ∧ s = .slice a M p ∧ Hid (numT15 (L.take k) = M) ∧ Hid (wr.ownsRow w.heap.size 32 4 (.slice a M p) M xs) ∧ Hid (Below w.heap.size w wr))
  case atStart => exact ⟨0, none, 0, 0, [], by omega, rfl, rfl, rfl, World.ownsRow_nil w w.heap.size 32 4, Below.refl _ _⟩
  case round =>
    obtain ⟨k, a, p, M, xs, hkg, rfl, rfl, HM, HO, HB⟩ := hrel
    cases gk with
    | zero =>
      have hkz : ¬ ((k : Int) < (L.length : Int)) := by omega
      have HMM : Hid (M = N) := by show M = _; rw [← HM.out, ← HN.out, List.take_of_length_le (by omega)]
      clear hkg
      go_wp2_with fail
      try rw [Exit.noGoto_ret]
      go_ret
      have := HMM.out
      subst this
      obtain ⟨_, _, he, q1, q2⟩ := owns_form HO.out
      simp only [Value.slice.injEq] at he
      obtain ⟨rfl, -, rfl⟩ := he
      exact ⟨_, _, rfl, q1, q2, HB.out⟩
    | succ go1 =>
      have hlt : k < L.length := by omega
      obtain ⟨b, o, al, pl, rfl, hbw, c0, c1, c2, c3, f0, f1, hls, q1, q2⟩ := ten_at (HR.out.new HB.out) hlt
      obtain ⟨e, he⟩ : ∃ e, tn L k = e := ⟨_, rfl⟩
      have HY : Hid (okTn e = true → numT15 (L.take (k + 1)) = M + 1) := by rw [← he, ← HM.out]; exact num_yes hlt
      have HNO : Hid (okTn e = false → numT15 (L.take (k + 1)) = M) := by rw [← he, ← HM.out]; exact num_no hlt
      rw [he] at c0 c1 c2 c3 f0 f1 hls q1
      have hkl : M ≤ k := by have := num_le (L.take k); rw [List.length_take, HM.out] at this; omega
      clear he HM
      go_upto_region 5 with fail
      have hbe : Below wr.heap.size wr (wr.alloc (.cells #[.string e.nm, .string e.key, .slice al e.list.length pl, .int .i64 e.quota] 32)) := (Below.refl _ _).alloc (Nat.le_refl _) _
      have HE : Hid (RowIs (wr.alloc (.cells #[.string e.nm, .string e.key, .slice al e.list.length pl, .int .i64 e.quota] 32)) wr.heap.size 32 [.string e.nm, .string e.key, .slice al e.list.length pl, .int .i64 e.quota]) := rowIs_new wr 32 [.string e.nm, .string e.key, .slice al e.list.length pl, .int .i64 e.quota]
      have HLS := hide (hls.new hbe)
      generalize wr.alloc (.cells #[.string e.nm, .string e.key, .slice al e.list.length pl, .int .i64 e.quota] 32) = X at *
      have HOX := hide (owns_new HO.out hbe)
      have HBX := hide (bchain HB.out hbe)
      have hne : (Value.slice a M p).ownBlock ≠ some wr.heap.size := fun hq => by have := (HO.out.lt _ hq).2; omega
      have HNE := hide hne
      have HGB : Hid (w.heap.size ≤ wr.heap.size) := HB.out.size
      generalize wr.heap.size = go at *
      clear c0 c1 c2 c3 hbe HO hne HB hls
      go_wp2_with fail
      go_loopg [18] 1 (fun g i wi => ∃ (j : Nat), j + g = 1 ∧ i = .int .i64 j ∧ Hid (0 < j → okTn e = true) ∧ Hid (RowIs wi go 32 [.string e.nm, .string e.key, .slice al e.list.length pl, .int .i64 e.quota]) ∧ Hid (RdR strS wi (.slice al e.list.length pl) e.list) ∧ Hid (wi.ownsRow w.heap.size 32 4 (.slice a M p) M xs) ∧ Hid (Below w.heap.size w wi))
      case atStart => exact ⟨0, by omega, rfl, by intro h; exact absurd h (Nat.lt_irrefl _), HE, HLS, HOX, HBX⟩
      case round =>
        clear HE HLS HOX HBX
        obtain ⟨j, hjg, rfl, HA, HE, HLS, HO, HB⟩ := hrel
        have hlE := HE.out.lt
        have e0 := HE.out.cell (j := 0) rfl
        have e1 := HE.out.cell (j := 1) rfl
        have e2 := HE.out.cell (j := 2) rfl
        have e3 := HE.out.cell (j := 3) rfl
        cases gk with
        | zero =>
          obtain rfl : j = 1 := by omega
          have HM2 := hide (HY.out (HA.out Nat.one_pos))
          clear hjg
          have hX : Below wr.heap.size wr (wr.alloc (.cells #[.string e.nm, .string e.key, .slice al e.list.length pl, .int .i64 e.quota] 32)) := (Below.refl _ _).alloc (Nat.le_refl _) _
          have hownX := owns_new HO.out hX
          have hRd : Reads (wr.alloc (.cells #[.string e.nm, .string e.key, .slice al e.list.length pl, .int .i64 e.quota] 32)) (.slice (some ⟨wr.heap.size, 0, none⟩) 1 1) 1 4 [.string e.nm, .string e.key, .slice al e.list.length pl, .int .i64 e.quota] := reads_of_owns (owns_lit wr 32 4 1 #[.string e.nm, .string e.key, .slice al e.list.length pl, .int .i64 e.quota] rfl (by omega))
          have hone : ∀ y ∈ ([.string e.nm, .string e.key, .slice al e.list.length pl, .int .i64 e.quota] : List Value), y.oneCell' = true := by intro y hy; simp at hy; rcases hy with rfl | rfl | rfl | rfl <;> rfl
          have HBX := hide (bchain HB.out hX)
          have hbs := HBX.out.size
          go_wp2_with (at_builtin; refine wpList_app _ (by rfl) _ _ 62 (by rfl) 32 (.agg #[.string ⟨#[]⟩, .string ⟨#[]⟩, .slice none 0 0, .int .i64 0]) 4 64 Tryz.underlying62 (by kernel_rfl) rfl (by decide) w.heap.size _ M xs (by rfl) hownX _ 1 [.string e.nm, .string e.key, .slice al e.list.length pl, .int .i64 e.quota] (by rfl) hRd hone (by omega) (by decide) hbs ?_)
          intro ad7 cap7 w7 hown7 hg7 hat7
          have HB7 : Hid (Below w.heap.size w w7) := by
            have hb := HBX.out
            exact ⟨hg7.os.trans hb.os, hg7.tape.trans hb.tape, hg7.output.trans hb.output, Nat.le_trans hb.size hg7.size, fun k hk => (hg7.block k (by have := hb.size; omega) (fun e => by have := (hownX.lt k e.symm).1; omega)).trans (hb.block k hk)⟩
          have HO7 := hide hown7
          clear hown7 hg7 hat7 hownX hRd hX hbs hone
          go_wp2_with fail
          go_roundg go1
          case measure => omega
          case rel => exact ⟨k + 1, ad7, cap7, M + 1, _, by omega, by go_num, rfl, HM2, HO7, HB7⟩
        | succ gj =>
          obtain rfl : j = 0 := by omega
          obtain ⟨hcx, hfl⟩ := HF.out _ HB.out
          go_wp2_with fail
          refine (implTRight e al pl _ (HLS.out.new (by repeat' (first | (with_reducible exact Below.refl _ _) | (with_reducible refine Below.drew ?_) | (with_reducible refine bo_drewN _ ?_) | (with_reducible refine bo_alloc ?_ _) | (refine bchain ?_ (by with_reducible assumption)) | (with_reducible refine Below.setCell ?_ ?_ _) | go_size))) f0 f1).mono ?_; rintro z w5 ⟨rfl, hb5⟩
          replace HE := hide (HE.out.new hb5)
          replace HLS := hide (HLS.out.new hb5)
          replace HO := hide (owns_new HO.out hb5)
          replace HB := hide (bchain HB.out hb5)
          clear hb5 e0 e1 e2 e3 hcx
          cases hq : okTn e
          · have HM2 := hide (HNO.out hq)
            clear hq
            go_wp2_with fail
            go_roundg go1
            case measure => omega
            case rel => exact ⟨k + 1, a, p, M, xs, by omega, by go_num, rfl, HM2, HO, HB⟩
          · have HA2 : Hid (0 < 1 → okTn e = true) := fun _ => hq
            clear hq
            go_wp2_with fail
            go_roundg gj
            case measure => omega
            case rel => exact ⟨1, by omega, by go_num, HA2, HE, HLS, HO, HB⟩
set_option maxHeartbeats 4000000 in
theorem implRisesT (L : List TenantD) (v : Value) (w : World) (hr : RdR tenantS w v L) (hL : L.length ≤ 8) :
    Calls Tryz.prog 43 #[v, .func (.func 44) #[] #[]] w fun x w' => x = .returned (.bool (risT L)) ∧ Below w.heap.size w w' := by
  obtain ⟨ad, cap, rfl, h1, h2⟩ := hr.form
  have HR := hide hr
  clear hr
  obtain ⟨A, hA⟩ : ∃ A, risT L = A := ⟨_, rfl⟩
  rw [hA]
  have HA := hide hA
  clear hA
  go_enter Tryz.func43, Tryz.ntmps43
  go_wp2_with fail
  go_loopw [5] (fun i wr => ∃ (k : Nat), i = .int .i64 (k + 1 : Nat) ∧ k ≤ 60 ∧ Hid (∀ j, j + 1 < L.length → j < k → Op.bytesLess (tn L j).nm.toList (tn L (j + 1)).nm.toList = true) ∧ Hid (Below w.heap.size w wr)) (fun i _ => L.length + 1 - (intOf i).toNat)
  case atStart => exact ⟨0, rfl, by omega, fun j _ hj => absurd hj (Nat.not_lt_zero _), Below.refl _ _⟩
  case round =>
    obtain ⟨k, rfl, hk, HN, HB⟩ := hrel
    by_cases hlt : k + 1 < L.length
    · obtain ⟨b, o, al, pl, rfl, hbw, c0, c1, c2, c3, f0, f1, hls, q1, q2⟩ := ten_at (HR.out.new HB.out) (show k < L.length by omega)
      obtain ⟨b', o', am, pm, hbo, _, d0, d1, d2, d3, f2, f3, hms, q3, q4⟩ := ten_at (HR.out.new HB.out) hlt
      simp only [Option.some.injEq, Addr.mk.injEq] at hbo
      obtain ⟨rfl, rfl, -⟩ := hbo
      obtain ⟨e, he⟩ : ∃ e, tn L k = e := ⟨_, rfl⟩
      obtain ⟨f, hf⟩ : ∃ f, tn L (k + 1) = f := ⟨_, rfl⟩
      rw [he] at c0 c1 c2 c3 q1
      rw [hf] at d0 d1 d2 d3 q3
      have g0 : ∀ y : Later wr, y.w.cell? ⟨b, o + k * 4, none⟩ = some (.string e.nm) := fun y => (y.b.cell (p := ⟨b, o + k * 4, none⟩) hbw).trans c0
      have g1 : ∀ y : Later wr, y.w.cell? ⟨b, o + k * 4 + 1, none⟩ = some (.string e.key) := fun y => (y.b.cell (p := ⟨b, o + k * 4 + 1, none⟩) hbw).trans c1
      have g2 : ∀ y : Later wr, y.w.cell? ⟨b, o + k * 4 + 2, none⟩ = some (.slice al e.list.length pl) := fun y => (y.b.cell (p := ⟨b, o + k * 4 + 2, none⟩) hbw).trans c2
      have g3 : ∀ y : Later wr, y.w.cell? ⟨b, o + k * 4 + 3, none⟩ = some (.int .i64 e.quota) := fun y => (y.b.cell (p := ⟨b, o + k * 4 + 3, none⟩) hbw).trans c3
      have k0 : ∀ y : Later wr, y.w.cell? ⟨b, o + (k + 1) * 4, none⟩ = some (.string f.nm) := fun y => (y.b.cell (p := ⟨b, o + (k + 1) * 4, none⟩) hbw).trans d0
      have k1 : ∀ y : Later wr, y.w.cell? ⟨b, o + (k + 1) * 4 + 1, none⟩ = some (.string f.key) := fun y => (y.b.cell (p := ⟨b, o + (k + 1) * 4 + 1, none⟩) hbw).trans d1
      have k2 : ∀ y : Later wr, y.w.cell? ⟨b, o + (k + 1) * 4 + 2, none⟩ = some (.slice am f.list.length pm) := fun y => (y.b.cell (p := ⟨b, o + (k + 1) * 4 + 2, none⟩) hbw).trans d2
      have k3 : ∀ y : Later wr, y.w.cell? ⟨b, o + (k + 1) * 4 + 3, none⟩ = some (.int .i64 f.quota) := fun y => (y.b.cell (p := ⟨b, o + (k + 1) * 4 + 3, none⟩) hbw).trans d3
      have hbl := fun w => implTBelow e f al am pl pm w
      clear c0 c1 c2 c3 d0 d1 d2 d3 hls hms f0 f1 f2 f3
      cases hq : Op.bytesLess e.nm.toList f.nm.toList
      · have HF : Hid (A = false) := by
          show A = false
          rw [← HA.out]
          cases hz : risT L
          · rfl
          · have := risT_iff.1 hz k hlt
            rw [he, hf, hq] at this
            cases this
        rw [hq] at hbl
        clear hq he hf
        go_upto_region 4 with fail
        have hne : Nonempty (Later wr) := ⟨⟨wr, Below.refl _ _⟩⟩; refine region_later (by kernel_rfl) (by kernel_rfl) ?_
        repeat (go_big_quiet_step (fail))
        go_big_quiet_want; go_big_quiet_op; refine ⟨.bool false, fun y => later_calls (x := y) (hbl y.w), ?_⟩; go_big_quiet_on
        repeat (go_big_quiet_step (fail))
        refine wpQuiet_nil ?_; intro _ hw'; obtain ⟨y, hw''⟩ := hw'; subst hw''; have hby := y.b
        go_wp2_with fail
        go_ret
        exact ⟨by rw [HF.out]; rfl, bchain HB.out hby⟩
      · have HN2 : Hid (∀ j, j + 1 < L.length → j < k + 1 → Op.bytesLess (tn L j).nm.toList (tn L (j + 1)).nm.toList = true) := fun j hj hjk => by
          by_cases ej : j = k
          · subst ej; rw [he, hf]; exact hq
          · exact HN.out j hj (by omega)
        rw [hq] at hbl
        clear hq he hf
        go_upto_region 4 with fail
        have hne : Nonempty (Later wr) := ⟨⟨wr, Below.refl _ _⟩⟩; refine region_later (by kernel_rfl) (by kernel_rfl) ?_
        repeat (go_big_quiet_step (fail))
        go_big_quiet_want; go_big_quiet_op; refine ⟨.bool true, fun y => later_calls (x := y) (hbl y.w), ?_⟩; go_big_quiet_on
        repeat (go_big_quiet_step (fail))
        refine wpQuiet_nil ?_; intro _ hw'; obtain ⟨y, hw''⟩ := hw'; subst hw''; have hby := y.b
        have HB2 := hide (bchain HB.out hby)
        go_wp2_with fail
        go_roundw
        case rel => exact ⟨k + 1, by go_num, by omega, HN2, HB2⟩
        case measure => simp [intOf]; omega
    · have HF : Hid (A = true) := by
        show A = true
        rw [← HA.out]
        exact risT_iff.2 fun i hi => HN.out i hi (by omega)
      have hge : ¬ ((k + 1 : Nat) : Int) < (L.length : Int) := by omega
      go_wp2_with fail
      go_ret
      exact ⟨by rw [HF.out]; rfl, HB.out⟩
end Go.Proofs.YtfemmnhfllbgjaaGreatDoor
