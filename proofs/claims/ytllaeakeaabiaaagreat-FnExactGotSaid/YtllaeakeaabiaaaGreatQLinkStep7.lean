/- The program's link: data comes in. -/
import Derived.Test.YtllaeakeaabiaaaGreatQG39
import Derived.Test.YtllaeakeaabiaaaGreatQG9
import Derived.Test.YtllaeakeaabiaaaGreatQG5
namespace Go.Proofs.YtllaeakeaabiaaaGreat
open Go.RowKit
set_option maxRecDepth 100000
set_option linter.unusedSimpArgs false
set_option linter.unusedVariables false
/-- Data that came to a stream that may get. -/
def carryO (D : CnD) (f : Fr) (k : Nat) (F : FlD) : GotO :=
  if F.get < (f.b.size : Int) then ((grantD D 0 f.b.size).1, (grantD D 0 f.b.size).2, some (f.st, 2))
  else if (inTu F.tun (payV f) (decide (f.fl % 2 = 1))).2 = false then ((grantD { D with flows := D.flows.set k { F with get := F.get - f.b.size } } 0 f.b.size).1, (grantD { D with flows := D.flows.set k { F with get := F.get - f.b.size } } 0 f.b.size).2, some (f.st, 2))
  else
    let D2 : CnD := { D with flows := D.flows.set k { F with get := F.get - f.b.size, tun := (inTu F.tun (payV f) (decide (f.fl % 2 = 1))).1 } }
    let D3 := if decide (f.fl % 2 = 1) = true then hapD D2 f.st 2 else D2
    let left := (f.b.size : Int) - (payV f).size
    ((grantD (grantD D3 f.st left).1 0 left).1, (grantD D3 f.st left).2 ++ (grantD (grantD D3 f.st left).1 0 left).2, none)
theorem data_carry {c : CnD} {f : Fr} {k : Nat} (h : okCn c = true) (hg : ¬ c.get < (f.b.size : Int)) (hs : stateD c.reg f.st ≠ 0) (hm : mgV (stateD c.reg f.st) = true) (ha : atE c.reg.es f.st = some k) (hkf : k < c.flows.length) :
    dataO c f = carryO { c with get := c.get - f.b.size } f k c.flows[k] := by
  unfold dataO
  dsimp only
  rw [if_neg hg, if_neg hs, if_neg (show ¬ mgV (stateD c.reg f.st) = false by rw [hm]; decide)]
  rw [getAt_some (c := { c with get := c.get - (f.b.size : Int) }) ha hkf]
  unfold carryO
  by_cases hg2 : c.flows[k].get < (f.b.size : Int)
  · rw [if_pos hg2, if_pos hg2]
  rw [if_neg hg2, if_neg hg2, atFl_at (c := { c with get := c.get - (f.b.size : Int) }) ha hkf]
  dsimp only
  have hk2 : k < (c.flows.set k { c.flows[k] with get := c.flows[k].get - (f.b.size : Int) }).length := by rw [List.length_set]; exact hkf
  rw [roomAt_some (c := { c with get := c.get - (f.b.size : Int), flows := c.flows.set k { c.flows[k] with get := c.flows[k].get - (f.b.size : Int) } }) ha hk2]
  dsimp only
  rw [List.getElem_set_self]
  dsimp only
  have hokt : okTu c.flows[k].tun = true := (cn_flow h (List.getElem_mem hkf)).2.2.1
  have hin : inTu c.flows[k].tun (payV f) (decide (f.fl % 2 = 1)) = if (!(c.flows[k].tun.up.e || c.flows[k].tun.up.k) && decide (((payV f).size : Int) ≤ c.flows[k].tun.up.r - c.flows[k].tun.up.b.size)) = false then (c.flows[k].tun, false) else (⟨⟨c.flows[k].tun.up.r, c.flows[k].tun.up.b ++ payV f, decide (f.fl % 2 = 1), c.flows[k].tun.up.k⟩, c.flows[k].tun.dn, c.flows[k].tun.went, c.flows[k].tun.came⟩, true) := by
    unfold inTu
    rw [if_neg (by rw [hokt]; decide)]
    cases c.flows[k].tun.up.e <;> cases c.flows[k].tun.up.k <;> simp
  rw [hin]
  split
  · rfl
  · dsimp only
    rw [if_neg (show ¬ ((true : Bool) = false) by decide), atFl_at (c := { c with get := c.get - (f.b.size : Int), flows := c.flows.set k { c.flows[k] with get := c.flows[k].get - (f.b.size : Int) } }) ha hk2]
    dsimp only
    rw [List.getElem_set_self, List.set_set]
    rfl
/-- What is left to do, once it is known whether there was room. -/
def carryE (D : CnD) (f : Fr) (ok : Bool) : GotO :=
  if ok = false then ((grantD D 0 f.b.size).1, (grantD D 0 f.b.size).2, some (f.st, 2))
  else ((grantD (grantD (if decide (f.fl % 2 = 1) = true then hapD D f.st 2 else D) f.st ((f.b.size : Int) - (payV f).size)).1 0 ((f.b.size : Int) - (payV f).size)).1, (grantD (if decide (f.fl % 2 = 1) = true then hapD D f.st 2 else D) f.st ((f.b.size : Int) - (payV f).size)).2 ++ (grantD (grantD (if decide (f.fl % 2 = 1) = true then hapD D f.st 2 else D) f.st ((f.b.size : Int) - (payV f).size)).1 0 ((f.b.size : Int) - (payV f).size)).2, none)
theorem gr_fits {w n : Int} (hw : winB w = true) (h1 : 1 ≤ n) (h2 : n ≤ 16777215) (h3 : w + n ≤ 16777215) : grV w n = (w + n, true) := by unfold grV; rw [if_pos ⟨hw, inB_of h1 h2, h3⟩]
theorem grant_shape (d : CnD) (id n : Int) : (grantD d id n).1.reg = d.reg ∧ (grantD d id n).1.flows.length = d.flows.length ∧ (grantD d id n).2.length ≤ 1 := by
  unfold grantD
  split
  · exact ⟨rfl, rfl, by simp⟩
  · split
    · exact ⟨rfl, rfl, by simp⟩
    · unfold atFl
      cases atE d.reg.es id with
      | none => exact ⟨rfl, rfl, by simp⟩
      | some k => exact ⟨rfl, by simp, by simp⟩
structure CarryTo (D : CnD) (f : Fr) (k : Nat) (F : FlD) (ok : Bool) (D' : CnD) : Prop where
  reg : D'.reg = D.reg
  get : D'.get = D.get
  len : D'.flows.length = D.flows.length
  at_ : ∀ hk : k < D'.flows.length, ok = true → D'.flows[k].get = F.get - f.b.size ∧ (f.b.size : Int) ≤ F.get
  e : carryO D f k F = carryE D' f ok
theorem carry_no {D : CnD} {f : Fr} {k : Nat} {F : FlD} (h : F.get < (f.b.size : Int)) : CarryTo D f k F false D :=
  ⟨rfl, rfl, rfl, fun _ hh => (by cases hh), (by unfold carryO carryE; rw [if_pos h, if_pos rfl])⟩
theorem carry_in {D : CnD} {f : Fr} {k : Nat} {F : FlD} {t : TuD} {ok : Bool} (h : (f.b.size : Int) ≤ F.get) (hokt : okTu F.tun = true) (hin : inTu F.tun (payV f) (decide (f.fl % 2 = 1)) = (t, ok)) :
    CarryTo D f k F ok { D with flows := D.flows.set k { F with get := F.get - f.b.size, tun := t } } := by
  refine ⟨rfl, rfl, List.length_set, fun _ _ => ⟨by simp, h⟩, ?_⟩
  unfold carryO carryE
  rw [if_neg (show ¬ F.get < (f.b.size : Int) by omega), hin]
  cases ok
  · have ht' : t = F.tun := by
      unfold inTu at hin
      rw [if_neg (by rw [hokt]; decide)] at hin
      split at hin
      · exact (Prod.mk.inj hin).1.symm
      · cases (Prod.mk.inj hin).2
    subst ht'
    rfl
  · rfl
set_option maxHeartbeats 16000000 in
theorem implCarryIn (lo g : Nat) (D : CnD) (L : List Fr) (bs : List Nat) (f : Fr) (k : Nat) (F : FlD) (w : World) (h : LkM w lo g D L bs) (hok : okCn D = true) (hL : L.length ≤ 999990) (hf : okFr f = true) (hk1 : f.k = 1)
    (ha : atE D.reg.es f.st = some k) (hkf : k < D.flows.length) (hF : D.flows[k] = F) (hget : D.get + f.b.size ≤ 16777215) :
    Calls Tryz.prog 174 #[.pointer (some ⟨g, 0, none⟩), .agg #[.int .i64 f.k, .int .i64 f.fl, .int .i64 f.st, .string f.b], .int .i64 f.b.size] w fun x w' => x = endO (carryO D f k F) ∧ ∃ bx, Lnk lo g w bs w' (carryO D f k F).1 (L ++ (carryO D f k F).2.1) bx := by
  have hq := h.far (Nat.le_refl _)
  obtain ⟨V, hV⟩ : ∃ V, w.alloc (.cells #[.int .i64 f.k, .int .i64 f.fl, .int .i64 f.st, .string f.b] 48) = V := ⟨_, rfl⟩; have hBV : Below w.heap.size w V := (by rw [← hV]; exact (Below.refl _ _).alloc (Nat.le_refl _) _); have hRV : RowIs V w.heap.size 48 [.int .i64 f.k, .int .i64 f.fl, .int .i64 f.st, .string f.b] := (by rw [← hV]; exact rowIs_new w 48 _)
  have hm := h.new hBV
  obtain ⟨q1, q2, q3, q4, q5, _, _, q8, _⟩ := fr_kinds hf
  have hst : f.st ≠ 0 := by have := q8 (.inl hk1); omega
  have hlen := (cn_len hok).1
  have h60 := (cn_len hok).2
  have hfl := cn_flow hok (List.getElem_mem hkf)
  rw [hF] at hfl
  obtain ⟨⟨hg1, hg2⟩, _, hokt, _⟩ := hfl
  have hwg := (cn_wins hok).1
  have hgl := hm.glt
  have hpl := pay_le f
  have HB := hide hBV; have HR := hide hRV; have HM := hide hm; have HQ := hide hq
  have HQL := hide hRV.lt
  obtain ⟨gf, A, C, ve, vi, vo, cap, v0, tv, hrow, hgb, hgfl, hgg, hmid, f0, f1, hput⟩ := HM.out.flw k hkf
  rw [hF] at hmid f0 f1 hput
  have HX := hide (RowIs.cell (j := 10) hrow rfl)
  have HMD := hide hmid; have HP := hide hput; have HA := hide ha; have HF := hide hF
  have HLEN := hide (And.intro hlen h60)
  have F0 := hide f0; have F1 := hide f1; have HOK := hide hok
  obtain ⟨E, hE⟩ : ∃ E, carryO D f k F = E := ⟨_, rfl⟩
  rw [hE]
  have HE := hide hE
  have r0 := RowIs.cell (j := 0) hRV rfl
  have r1 := RowIs.cell (j := 1) hRV rfl
  have r2 := RowIs.cell (j := 2) hRV rfl
  have r3 := RowIs.cell (j := 3) hRV rfl
  have rl := hRV.lt
  have HFO := hide hf; have HST := hide hst; have HK1 := hide hk1
  clear hE hrow hmid hput ha hF hq hBV hRV hm h f0 f1 hok hf hst hlen h60 hk1 q8
  go_enter Tryz.func174, Tryz.ntmps174
  go_upto_region 1 with fail
  try rw [hV]
  clear hV
  have z0 : ∀ y : Later V, y.w.cell? ⟨w.heap.size, 0, none⟩ = some (.int .i64 f.k) := fun y => (y.b.cell (p := ⟨w.heap.size, 0, none⟩) rl).trans r0
  have z1 : ∀ y : Later V, y.w.cell? ⟨w.heap.size, 1, none⟩ = some (.int .i64 f.fl) := fun y => (y.b.cell (p := ⟨w.heap.size, 1, none⟩) rl).trans r1
  have z2 : ∀ y : Later V, y.w.cell? ⟨w.heap.size, 2, none⟩ = some (.int .i64 f.st) := fun y => (y.b.cell (p := ⟨w.heap.size, 2, none⟩) rl).trans r2
  have z3 : ∀ y : Later V, y.w.cell? ⟨w.heap.size, 3, none⟩ = some (.string f.b) := fun y => (y.b.cell (p := ⟨w.heap.size, 3, none⟩) rl).trans r3
  have hne : Nonempty (Later V) := ⟨⟨V, Below.refl _ _⟩⟩; refine region_later (by kernel_rfl) (by kernel_rfl) ?_
  repeat (go_big_quiet_step (fail))
  (go_big_quiet_want; go_big_quiet_op; refine ⟨.pointer (some ⟨gf, k * 15, none⟩), fun y => later_calls (x := y) (implFlowSome lo g D L bs f.st k gf cap y.w (HM.out.new y.b) HLEN.out.1 HLEN.out.2 HA.out ((y.b.cell (p := ⟨g, 10, none⟩) hgl).trans HX.out)), ?_⟩; go_big_quiet_on)
  repeat (go_big_quiet_step (fail))
  (go_big_quiet_want; go_big_quiet_op; refine ⟨.string (payV f), fun y => later_calls (x := y) (implPayload f.k f.fl f.st f.b y.w (by unfold maxLen; omega)), ?_⟩; go_big_quiet_on)
  repeat (go_big_quiet_step (fail))
  refine wpQuiet_nil ?_; intro _ hw'; obtain ⟨y, hw''⟩ := hw'; subst hw''; have hby := y.b
  have HB2 := hide (bchain HB.out hby)
  replace HMD := hide (HMD.out.new hby)
  have HT := hide (TurnB.new (bs := [gf]) hby)
  replace HR := hide (HR.out.new hby)
  generalize y.w = w1 at *
  clear hby hne z0 z1 z2 z3 r0 r1 r2 r3 rl HX
  obtain ⟨gt, ft, hus⟩ : ∃ gt ft, usV F.get f.b.size = (gt, ft) := ⟨_, _, rfl⟩
  have HUS := hide hus
  have HGB := hide hgb
  have c1 := MidIs.cell (j := 1) HMD.out rfl
  have cl := HMD.out.lt
  go_wp2_with fail
  refine (implUsed F.get f.b.size _).mono ?_; rw [HUS.out]; rintro x w2 ⟨rfl, hb2⟩
  replace HMD := hide (HMD.out.new hb2)
  replace HT := hide (HT.out.trans (TurnB.new hb2))
  replace HR := hide (HR.out.new hb2)
  clear hb2 c1 cl hus
  have c1 := MidIs.cell (j := 1) HMD.out rfl
  have cf := fun j => MidIs.frozen HMD.out j
  have cl := HMD.out.lt
  go_upto_if 28 with fail
  have hm2 := MidIs.set HMD.out 1 (.int .i64 gt) (by simp)
  have HM2 : Hid (MidIs (w2.setCell ⟨gf, k * 15 + 1, none⟩ (.int .i64 gt)) gf 89 A C (k * 15) (flcs { F with get := gt } v0)) := hm2
  have HT2 := hide (HT.out.set ⟨gf, k * 15 + 1, none⟩ (.int .i64 gt) (by simp))
  have HR2 := hide (HR.out.far ⟨gf, k * 15 + 1, none⟩ (.int .i64 gt) (fun e => HQ.out (by rw [← e]; simp [HGB.out])))
  clear hm2 c1 cf cl HMD HT HR
  generalize w2.setCell ⟨gf, k * 15 + 1, none⟩ (.int .i64 gt) = w3 at *
  go_cut [8] (fun y wc => ∃ (ok2 : Bool) (D' : CnD), y = .bool ok2 ∧ Hid (Lnk lo g w bs wc D' L bs) ∧ Hid (RowIs wc w.heap.size 48 [.int .i64 f.k, .int .i64 f.fl, .int .i64 f.st, .string f.b]) ∧ Hid (CarryTo D f k F ok2 D'))
  case first =>
    cases ft
    · have hgt := us_no HUS.out
      subst hgt
      have hlt : F.get < (f.b.size : Int) := by
        by_cases hc : F.get < (f.b.size : Int)
        · exact hc
        · have := us_fits (w := F.get) (k := f.b.size) (win_of hg1 hg2) (by omega) (by omega)
          rw [HUS.out] at this
          cases (Prod.mk.inj this).2
      have hfin := HP.out w3 F rfl F0.out F1.out HM2.out HT2.out
      have hds : ({ D with flows := D.flows.set k F } : CnD) = D := by
        have : D.flows.set k F = D.flows := by rw [← HF.out]; exact List.set_getElem_self _
        rw [this]
      rw [hds] at hfin
      have HFI := hide (Lnk.after HB.out hfin)
      have HEE := hide (carry_no (D := D) (k := k) hlt)
      clear hfin hds hlt
      go_wp2_with fail
      go_meet
      exact ⟨false, D, rfl, HFI, HR2, HEE⟩
    obtain ⟨_, _, hle, rfl⟩ := us_yes HUS.out
    obtain ⟨t', ok2, hin⟩ : ∃ t' ok2, inTu F.tun (payV f) (decide (f.fl % 2 = 1)) = (t', ok2) := ⟨_, _, rfl⟩
    have HIN := hide hin
    have hsz := inTu_size F.tun (payV f) (decide (f.fl % 2 = 1)) hokt (by omega)
    rw [hin] at hsz
    have HSZ : Hid (t'.up.b.size ≤ 9223372036854775807 ∧ t'.dn.b.size ≤ 9223372036854775807) := ⟨by have := hsz.1; dsimp only at this; omega, by have := hsz.2; dsimp only at this; omega⟩
    have HOFF := hide HM2.out.off
    have hp : MidIs w3 gf 89 (A ++ [.int .i64 F.id, .int .i64 (F.get - f.b.size), .int .i64 F.give, v0]) ([.bool F.ended] ++ C) (k * 15 + 4) (tucs F.tun) := MidIs.part (p := [.int .i64 F.id, .int .i64 (F.get - f.b.size), .int .i64 F.give, v0]) (m := tucs F.tun) (q := [.bool F.ended]) HM2.out
    have HEE := hide (carry_in (D := D) (k := k) hle hokt hin)
    clear hin hsz HUS HM2
    go_upto_region 4 with fail
    have hD : Below w3.heap.size w3 (World.drew w3) := (Below.refl _ _).drew
    have HPT := hide (hp.new hD)
    have HT := hide (HT2.out.trans (TurnB.new hD))
    have HBR := hide (HR2.out.new hD)
    clear hD hp HT2 HR2
    refine wp_region_held_drew (S := fun u => RowIs u w.heap.size 48 [.int .i64 f.k, .int .i64 f.fl, .int .i64 f.st, .string f.b]) (by kernel_rfl) HBR.out (fun hS => ?_)
    generalize World.drew w3 = u1 at *
    refine wpAnyH_take (i := 0) (v := ?_) rfl (by kernel_rfl) (by kernel_rfl) (by kernel_rfl) (fun _ _ _ h => h) (Or.inl ⟨by rfl, ?_⟩) hS ?_; rotate_left; focus (intro w hw; clear hw; go_simp; try with_reducible rfl)
    refine wpAnyH_take (i := 1) (v := ?_) rfl (by kernel_rfl) (by kernel_rfl) (by kernel_rfl) (fun _ _ _ h => h) (Or.inl ⟨by rfl, ?_⟩) hS ?_; rotate_left; focus (intro w hw; clear hw; go_simp; try with_reducible rfl)
    refine wpAnyH_take (i := 2) (v := ?_) rfl (by kernel_rfl) (by kernel_rfl) (by kernel_rfl) (fun _ _ _ h => h) (Or.inl ⟨by rfl, ?_⟩) hS ?_; rotate_left; focus (intro w hw; clear hw; go_simp; try with_reducible rfl)
    refine wpAnyH_take (i := 3) (v := ?_) rfl (by kernel_rfl) (by kernel_rfl) (by kernel_rfl) (fun _ _ _ h => h) (Or.inl ⟨by rfl, ?_⟩) hS ?_; rotate_left; focus (intro w hw; clear hw; go_simp; try with_reducible rfl)
    refine wpAnyH_take (i := 5) (v := ?_) rfl (by kernel_rfl) (by kernel_rfl) (by kernel_rfl) (fun _ _ _ h => h) (Or.inl ⟨by rfl, ?_⟩) hS ?_; rotate_left; focus (intro w hw; clear hw; go_simp; try with_reducible rfl)
    refine wpAnyH_take (i := 6) (v := .agg #[.int .i64 f.k, .int .i64 f.fl, .int .i64 f.st, .string f.b]) rfl (by kernel_rfl) (by kernel_rfl) (by kernel_rfl) (fun _ _ _ h => h) (Or.inl ⟨by kernel_rfl, ?ld⟩) hS ?_
    case ld =>
      intro uu hu
      have z0 := RowIs.cell (j := 0) hu rfl
      have z1 := RowIs.cell (j := 1) hu rfl
      have z2 := RowIs.cell (j := 2) hu rfl
      have z3 := RowIs.cell (j := 3) hu rfl
      clear hu
      go_simp
    refine wpAnyH_ready (rs := [4, 7]) (by kernel_rfl) (by simp) ?_
    refine AllReadyH.cons rfl (fun K hK => ?_) (AllReadyH.cons rfl (fun K hK => ?_) AllReadyH.nil)
    · skip
      try simp only [Act.put, List.getElem_toArray, List.getElem_cons_succ, List.getElem_cons_zero, List.setIfInBounds_toArray, List.set_cons_zero, List.set_cons_succ]
      rw [if_pos (by kernel_rfl)]
      refine wp_load_mid 87 _ (by rfl) gf (k * 15 + 4) (by rfl) (tucs F.tun) _ (fun j u hu => HPT.out.cell hu) Tryz.underlying87 rfl (by kernel_rfl) ?_
      refine hK.out _ _ HBR.out (fun hS => ?_)
      clear hK K
      try simp only [Act.put, List.getElem_toArray, List.getElem_cons_succ, List.getElem_cons_zero, List.setIfInBounds_toArray, List.set_cons_zero, List.set_cons_succ]
      refine wpAnyH_ready (rs := [7]) (by kernel_rfl) (by simp) ?_; refine AllReadyH.cons rfl (fun K hK => ?_) AllReadyH.nil; go_simp
      refine (implEnds f.k f.fl f.st f.b _ (by omega) (by omega)).mono ?_; rintro x u2 ⟨rfl, hbe⟩
      replace HPT := hide (HPT.out.new hbe)
      replace HT := hide (HT.out.trans (TurnB.new hbe))
      replace HBR := hide (HBR.out.new hbe)
      refine hK.out _ _ HBR.out (fun hS => ?_)
      clear hK K hbe
      try simp only [Act.put, List.getElem_toArray, List.getElem_cons_succ, List.getElem_cons_zero, List.setIfInBounds_toArray, List.set_cons_zero, List.set_cons_succ]
      refine wpAnyH_ready (rs := [8]) (by kernel_rfl) (by simp) ?_; refine AllReadyH.cons rfl (fun K hK => ?_) AllReadyH.nil; go_simp
      refine (implIn16 F.tun (payV f) (decide (f.fl % 2 = 1)) _ F0.out F1.out (by omega)).mono ?_; rw [HIN.out]; rintro x u3 ⟨rfl, hb3⟩
      replace HPT := hide (HPT.out.new hb3)
      replace HT := hide (HT.out.trans (TurnB.new hb3))
      replace HBR := hide (HBR.out.new hb3)
      refine hK.out _ _ HBR.out (fun hS => ?_)
      clear hK K hb3
      try simp only [Act.put, List.getElem_toArray, List.getElem_cons_succ, List.getElem_cons_zero, List.setIfInBounds_toArray, List.set_cons_zero, List.set_cons_succ]
      refine wpAnyH_take (i := 9) (v := ?_) rfl (by kernel_rfl) (by kernel_rfl) (by kernel_rfl) (fun _ _ _ h => h) (Or.inl ⟨by rfl, ?_⟩) hS ?_; rotate_left; focus (intro w hw; clear hw; go_simp; try with_reducible rfl)
      refine wpAnyH_take (i := 10) (v := ?_) rfl (by kernel_rfl) (by kernel_rfl) (by kernel_rfl) (fun _ _ _ h => h) (Or.inl ⟨by rfl, ?_⟩) hS ?_; rotate_left; focus (intro w hw; clear hw; go_simp; try with_reducible rfl)
      refine wpAnyH_take (i := 11) (v := ?_) rfl (by kernel_rfl) (by kernel_rfl) (by kernel_rfl) (fun _ _ _ h => h) (Or.inl ⟨by rfl, ?_⟩) hS ?_; rotate_left; focus (intro w hw; clear hw; go_simp; try with_reducible rfl)
      refine wpAnyH_take (i := 12) (v := ?_) rfl (by kernel_rfl) (by kernel_rfl) (by kernel_rfl) (fun _ _ _ h => h) (Or.inl ⟨by rfl, ?_⟩) hS ?_; rotate_left; focus (intro w hw; clear hw; go_simp; try with_reducible rfl)
      refine wpAnyH_take (i := 13) (v := ?_) rfl (by kernel_rfl) (by kernel_rfl) (by kernel_rfl) (fun _ _ _ h => h) (Or.inl ⟨by rfl, ?_⟩) hS ?_; rotate_left; focus (intro w hw; clear hw; go_simp; try with_reducible rfl)
      refine wpAnyH_ready (rs := [14]) (by kernel_rfl) (by simp) ?_
      refine AllReadyH.cons rfl (fun K hK => ?_) AllReadyH.nil
      try simp only [Act.put, List.getElem_toArray, List.getElem_cons_succ, List.getElem_cons_zero, List.setIfInBounds_toArray, List.set_cons_zero, List.set_cons_succ]
      rw [if_pos (by kernel_rfl)]
      refine wp_store_mid 87 _ _ (by rfl) gf (k * 15 + 4) (tucs t') (by rfl) (by rfl) 89 _ _ _ HPT.out (by kernel_rfl) rfl (by intro u hu; simp at hu; rcases hu with rfl | rfl | rfl | rfl | rfl | rfl | rfl | rfl | rfl | rfl <;> rfl) ?_
      intro u4 hm4 ht4
      replace HBR := hide (HBR.out.kept (ht4.block _ HBR.out.lt (by simp; exact fun e => HQ.out (by rw [e]; simp [HGB.out]))))
      refine hK.out _ _ HBR.out (fun hS => ?_)
      clear hK K
      try simp only [Act.put, List.getElem_toArray, List.getElem_cons_succ, List.getElem_cons_zero, List.setIfInBounds_toArray, List.set_cons_zero, List.set_cons_succ]
      refine wpAnyH_take (i := 15) (v := ?_) rfl (by kernel_rfl) (by kernel_rfl) (by kernel_rfl) (fun _ _ _ h => h) (Or.inl ⟨by rfl, ?_⟩) hS ?_; rotate_left; focus (intro w hw; clear hw; go_simp; try with_reducible rfl)
      refine wpAnyH_done (by kernel_rfl) ?_ _
      have hmf := MidIs.whole (p := [.int .i64 F.id, .int .i64 (F.get - f.b.size), .int .i64 F.give, v0]) (m := tucs t') (q := [.bool F.ended]) hm4 HOFF.out
      have hfin := HP.out u4 { F with get := F.get - f.b.size, tun := t' } rfl HSZ.out.1 HSZ.out.2 hmf (HT.out.trans ht4)
      clear hm4 ht4 hmf
      go_wp2_with fail
      go_meet
      exact ⟨ok2, _, rfl, hide (Lnk.after HB.out hfin), HBR, HEE⟩
    · skip
      go_simp
      refine (implEnds f.k f.fl f.st f.b _ (by omega) (by omega)).mono ?_; rintro x u2 ⟨rfl, hbe⟩
      replace HPT := hide (HPT.out.new hbe)
      replace HT := hide (HT.out.trans (TurnB.new hbe))
      replace HBR := hide (HBR.out.new hbe)
      refine hK.out _ _ HBR.out (fun hS => ?_)
      clear hK K hbe
      try simp only [Act.put, List.getElem_toArray, List.getElem_cons_succ, List.getElem_cons_zero, List.setIfInBounds_toArray, List.set_cons_zero, List.set_cons_succ]
      refine wpAnyH_ready (rs := [4]) (by kernel_rfl) (by simp) ?_
      refine AllReadyH.cons rfl (fun K hK => ?_) AllReadyH.nil
      try simp only [Act.put, List.getElem_toArray, List.getElem_cons_succ, List.getElem_cons_zero, List.setIfInBounds_toArray, List.set_cons_zero, List.set_cons_succ]
      rw [if_pos (by kernel_rfl)]
      refine wp_load_mid 87 _ (by rfl) gf (k * 15 + 4) (by rfl) (tucs F.tun) _ (fun j u hu => HPT.out.cell hu) Tryz.underlying87 rfl (by kernel_rfl) ?_
      refine hK.out _ _ HBR.out (fun hS => ?_)
      clear hK K
      try simp only [Act.put, List.getElem_toArray, List.getElem_cons_succ, List.getElem_cons_zero, List.setIfInBounds_toArray, List.set_cons_zero, List.set_cons_succ]
      refine wpAnyH_ready (rs := [8]) (by kernel_rfl) (by simp) ?_; refine AllReadyH.cons rfl (fun K hK => ?_) AllReadyH.nil; go_simp
      refine (implIn16 F.tun (payV f) (decide (f.fl % 2 = 1)) _ F0.out F1.out (by omega)).mono ?_; rw [HIN.out]; rintro x u3 ⟨rfl, hb3⟩
      replace HPT := hide (HPT.out.new hb3)
      replace HT := hide (HT.out.trans (TurnB.new hb3))
      replace HBR := hide (HBR.out.new hb3)
      refine hK.out _ _ HBR.out (fun hS => ?_)
      clear hK K hb3
      try simp only [Act.put, List.getElem_toArray, List.getElem_cons_succ, List.getElem_cons_zero, List.setIfInBounds_toArray, List.set_cons_zero, List.set_cons_succ]
      refine wpAnyH_take (i := 9) (v := ?_) rfl (by kernel_rfl) (by kernel_rfl) (by kernel_rfl) (fun _ _ _ h => h) (Or.inl ⟨by rfl, ?_⟩) hS ?_; rotate_left; focus (intro w hw; clear hw; go_simp; try with_reducible rfl)
      refine wpAnyH_take (i := 10) (v := ?_) rfl (by kernel_rfl) (by kernel_rfl) (by kernel_rfl) (fun _ _ _ h => h) (Or.inl ⟨by rfl, ?_⟩) hS ?_; rotate_left; focus (intro w hw; clear hw; go_simp; try with_reducible rfl)
      refine wpAnyH_take (i := 11) (v := ?_) rfl (by kernel_rfl) (by kernel_rfl) (by kernel_rfl) (fun _ _ _ h => h) (Or.inl ⟨by rfl, ?_⟩) hS ?_; rotate_left; focus (intro w hw; clear hw; go_simp; try with_reducible rfl)
      refine wpAnyH_take (i := 12) (v := ?_) rfl (by kernel_rfl) (by kernel_rfl) (by kernel_rfl) (fun _ _ _ h => h) (Or.inl ⟨by rfl, ?_⟩) hS ?_; rotate_left; focus (intro w hw; clear hw; go_simp; try with_reducible rfl)
      refine wpAnyH_take (i := 13) (v := ?_) rfl (by kernel_rfl) (by kernel_rfl) (by kernel_rfl) (fun _ _ _ h => h) (Or.inl ⟨by rfl, ?_⟩) hS ?_; rotate_left; focus (intro w hw; clear hw; go_simp; try with_reducible rfl)
      refine wpAnyH_ready (rs := [14]) (by kernel_rfl) (by simp) ?_
      refine AllReadyH.cons rfl (fun K hK => ?_) AllReadyH.nil
      try simp only [Act.put, List.getElem_toArray, List.getElem_cons_succ, List.getElem_cons_zero, List.setIfInBounds_toArray, List.set_cons_zero, List.set_cons_succ]
      rw [if_pos (by kernel_rfl)]
      refine wp_store_mid 87 _ _ (by rfl) gf (k * 15 + 4) (tucs t') (by rfl) (by rfl) 89 _ _ _ HPT.out (by kernel_rfl) rfl (by intro u hu; simp at hu; rcases hu with rfl | rfl | rfl | rfl | rfl | rfl | rfl | rfl | rfl | rfl <;> rfl) ?_
      intro u4 hm4 ht4
      replace HBR := hide (HBR.out.kept (ht4.block _ HBR.out.lt (by simp; exact fun e => HQ.out (by rw [e]; simp [HGB.out]))))
      refine hK.out _ _ HBR.out (fun hS => ?_)
      clear hK K
      try simp only [Act.put, List.getElem_toArray, List.getElem_cons_succ, List.getElem_cons_zero, List.setIfInBounds_toArray, List.set_cons_zero, List.set_cons_succ]
      refine wpAnyH_take (i := 15) (v := ?_) rfl (by kernel_rfl) (by kernel_rfl) (by kernel_rfl) (fun _ _ _ h => h) (Or.inl ⟨by rfl, ?_⟩) hS ?_; rotate_left; focus (intro w hw; clear hw; go_simp; try with_reducible rfl)
      refine wpAnyH_done (by kernel_rfl) ?_ _
      have hmf := MidIs.whole (p := [.int .i64 F.id, .int .i64 (F.get - f.b.size), .int .i64 F.give, v0]) (m := tucs t') (q := [.bool F.ended]) hm4 HOFF.out
      have hfin := HP.out u4 { F with get := F.get - f.b.size, tun := t' } rfl HSZ.out.1 HSZ.out.2 hmf (HT.out.trans ht4)
      clear hm4 ht4 hmf
      go_wp2_with fail
      go_meet
      exact ⟨ok2, _, rfl, hide (Lnk.after HB.out hfin), HBR, HEE⟩
  rename_i wc
  obtain ⟨ok2, D', rfl, HL, HR3, HC⟩ := hcut
  clear HM2 HT2 HR2 HP
  have hE2 := HE.out.symm.trans HC.out.e
  have hlen' : D'.flows.length = D'.reg.es.length ∧ D'.reg.es.length ≤ 60 := by rw [HC.out.len, HC.out.reg]; exact HLEN.out
  have hgd := HC.out.get
  have HL6 := hide hlen'
  have HGD := hide hgd
  clear hlen' hgd
  cases ok2
  · have HE2 := hide hE2
    clear hE2
    have hm3 := HL.out.m
    go_wp2_with fail
    refine (implGiveBack lo g D' L bs 0 f.b.size _ hm3 HL6.out.1 HL6.out.2 (by omega) (by omega) (by omega) (.inl rfl) (fun _ hn => ?gg) (fun h => absurd rfl h)).mono ?_
    case gg =>
      rw [HGD.out]
      exact gr_fits (win_of (by omega) (by omega)) (by omega) (by omega) (by omega)
    rintro x w4 ⟨rfl, by4, hl4⟩
    have HL4 := hide (HL.out.step hl4)
    have HR4 := hide (hl4.box HR3.out HQ.out)
    clear hl4 hm3 HL HR3
    have r2 := RowIs.cell (j := 2) HR4.out rfl
    go_wp2_with fail
    rw [HE2.out]
    exact ⟨rfl, rfl, by4, HL4.out⟩
  have r0 := RowIs.cell (j := 0) HR3.out rfl
  have r1 := RowIs.cell (j := 1) HR3.out rfl
  have r2 := RowIs.cell (j := 2) HR3.out rfl
  have r3 := RowIs.cell (j := 3) HR3.out rfl
  have HE1 := hide hE2
  clear hE2
  have e1 : IntKind.i64.wrap ((f.b.size : Int) - (payV f).size) = (f.b.size : Int) - (payV f).size := by rw [IntKind.wrap_i64]; omega
  go_wp2_with fail
  refine (implEnds f.k f.fl f.st f.b _ (by omega) (by omega)).mono ?_; rintro x w4 ⟨rfl, hb4⟩
  replace HL := hide (HL.out.new hb4)
  replace HR3 := hide (HR3.out.new hb4)
  clear hb4 r0 r1 r2 r3
  have hat' : atE D'.reg.es f.st = some k := by rw [HC.out.reg]; exact HA.out
  have hkf' : k < D'.flows.length := by rw [HC.out.len]; exact hkf
  have HG := hide (HC.out.at_ hkf' rfl)
  cases hfin : decide (f.fl % 2 = 1)
  · have H3L := hide HL6.out
    have H3A := hide hat'
    have H3G : Hid (∀ hk : k < D'.flows.length, D'.flows[k].get = F.get - f.b.size ∧ (f.b.size : Int) ≤ F.get) := fun _ => HG.out
    have H3D := hide HGD.out
    have HE2 : Hid (E = ((grantD (grantD D' f.st ((f.b.size : Int) - (payV f).size)).1 0 ((f.b.size : Int) - (payV f).size)).1, (grantD D' f.st ((f.b.size : Int) - (payV f).size)).2 ++ (grantD (grantD D' f.st ((f.b.size : Int) - (payV f).size)).1 0 ((f.b.size : Int) - (payV f).size)).2, none)) := by
      show E = _
      rw [HE1.out]; unfold carryE; rw [if_neg (by decide), hfin]; rfl
    have HL5 := hide HL.out
    have HR4 := hide HR3.out
    obtain ⟨bz, hbz⟩ : ∃ b, bs = b := ⟨_, rfl⟩
    rw [hbz] at HL5
    have HL5b : Hid (Lnk lo g w bs w4 D' L bz) := by show Lnk _ _ _ _ _ _ _ _; rw [hbz]; exact HL5.out
    clear HL5 HL HR3 HE1 HG
    have HL5 := HL5b
    clear HL5b hfin
    have hD3l : D'.flows.length = D'.reg.es.length ∧ D'.reg.es.length ≤ 60 := H3L.out
    have r2 := RowIs.cell (j := 2) HR4.out rfl
    have hm5 := HL5.out.m
    go_wp2_with fail
    refine (implGiveBack lo g D' L bz f.st ((f.b.size : Int) - (payV f).size) _ hm5 hD3l.1 hD3l.2 (by omega) (by omega) (by omega) (.inr ⟨k, H3A.out⟩) (fun h => absurd h HST.out) (fun _ hn k' hk' ha' => ?gf)).mono ?_
    case gf =>
      obtain rfl : k = k' := Option.some.inj (H3A.out.symm.trans ha')
      obtain ⟨e1, e2⟩ := H3G.out hk'
      rw [e1]
      exact gr_fits (win_of (by omega) (by omega)) (by omega) (by omega) (by omega)
    rintro x w7 ⟨rfl, by7, hl7⟩
    have HL7 := hide (HL5.out.step hl7)
    clear hl7 hm5 r2 HL5
    obtain ⟨g1, g2, g3⟩ := grant_shape D' f.st ((f.b.size : Int) - (payV f).size)
    have hgg := grant_get (d := D') (n := (f.b.size : Int) - (payV f).size) HST.out
    have H3X := hide (And.intro g1 (And.intro g2 hgg))
    have hlL : (L ++ (grantD D' f.st ((f.b.size : Int) - (payV f).size)).2).length ≤ 1000000 := by rw [List.length_append]; omega
    clear g1 g2 g3 hgg
    have hm7 := HL7.out.m
    go_wp2_with fail
    refine (implGiveBack lo g (grantD D' f.st ((f.b.size : Int) - (payV f).size)).1 _ by7 0 ((f.b.size : Int) - (payV f).size) _ hm7 (by rw [H3X.out.2.1, H3X.out.1]; exact hD3l.1) (by rw [H3X.out.1]; exact hD3l.2) hlL (by omega) (by omega) (.inl rfl) (fun _ hn => ?gg) (fun h => absurd rfl h)).mono ?_
    case gg =>
      rw [H3X.out.2.2, H3D.out]
      exact gr_fits (win_of (by omega) (by omega)) (by omega) (by omega) (by omega)
    rintro x w8 ⟨rfl, by8, hl8⟩
    have HL8 := hide (HL7.out.step hl8)
    clear hl8 hm7 HL7
    go_wp2_with fail
    first | go_end0 | refine bodyPost_ret (results_none rfl _ _ _) rfl ?_
    rw [HE2.out]
    refine ⟨rfl, by8, ?_⟩
    have hfin := HL8.out
    (try rw [List.append_assoc] at hfin)
    exact hfin
  · have hrk : okRg D'.reg = true := by rw [HC.out.reg]; exact (okCn_iff.1 HOK.out).1
    have hm4 := HL.out.m
    have r2 := RowIs.cell (j := 2) HR3.out rfl
    go_wp2_with fail
    refine (implHappen lo g D' L bs f.st 2 _ hm4 hrk).mono ?_; rintro x w5 ⟨rfl, bz, hl5⟩
    obtain ⟨D3, hD3⟩ : ∃ D3, hapD D' f.st 2 = D3 := ⟨_, rfl⟩
    rw [hD3] at hl5
    have HL5 := hide (HL.out.step hl5)
    have HR4 := hide (hl5.box HR3.out HQ.out)
    have hfl3 : D3.flows = D'.flows := by rw [← hD3]; rfl
    have H3L : Hid (D3.flows.length = D3.reg.es.length ∧ D3.reg.es.length ≤ 60) := by
      show _ ∧ _
      rw [hfl3, ← hD3]
      show _ = (happenRaw D'.reg f.st 2).1.es.length ∧ (happenRaw D'.reg f.st 2).1.es.length ≤ 60
      rw [hap_len]; exact HL6.out
    have H3A : Hid (atE D3.reg.es f.st = some k) := by
      show atE _ _ = _
      rw [← hat', ← hD3]; exact atE_ids (hap_ids D'.reg f.st 2) f.st
    have H3G : Hid (∀ hk : k < D3.flows.length, D3.flows[k].get = F.get - f.b.size ∧ (f.b.size : Int) ≤ F.get) := fun hk => by simp only [hfl3]; exact HG.out
    have H3D : Hid (D3.get = D.get) := by show _ = _; rw [← hD3]; exact HGD.out
    have HE2 : Hid (E = ((grantD (grantD D3 f.st ((f.b.size : Int) - (payV f).size)).1 0 ((f.b.size : Int) - (payV f).size)).1, (grantD D3 f.st ((f.b.size : Int) - (payV f).size)).2 ++ (grantD (grantD D3 f.st ((f.b.size : Int) - (payV f).size)).1 0 ((f.b.size : Int) - (payV f).size)).2, none)) := by
      show E = _
      rw [HE1.out]; unfold carryE; rw [if_neg (by decide), hfin, if_pos rfl, hD3]
    clear hl5 hm4 r2 HL HR3 HE1 HG hfin hD3 hfl3
    have hD3l : D3.flows.length = D3.reg.es.length ∧ D3.reg.es.length ≤ 60 := H3L.out
    have r2 := RowIs.cell (j := 2) HR4.out rfl
    have hm5 := HL5.out.m
    go_wp2_with fail
    refine (implGiveBack lo g D3 L bz f.st ((f.b.size : Int) - (payV f).size) _ hm5 hD3l.1 hD3l.2 (by omega) (by omega) (by omega) (.inr ⟨k, H3A.out⟩) (fun h => absurd h HST.out) (fun _ hn k' hk' ha' => ?gf)).mono ?_
    case gf =>
      obtain rfl : k = k' := Option.some.inj (H3A.out.symm.trans ha')
      obtain ⟨e1, e2⟩ := H3G.out hk'
      rw [e1]
      exact gr_fits (win_of (by omega) (by omega)) (by omega) (by omega) (by omega)
    rintro x w7 ⟨rfl, by7, hl7⟩
    have HL7 := hide (HL5.out.step hl7)
    clear hl7 hm5 r2 HL5
    obtain ⟨g1, g2, g3⟩ := grant_shape D3 f.st ((f.b.size : Int) - (payV f).size)
    have hgg := grant_get (d := D3) (n := (f.b.size : Int) - (payV f).size) HST.out
    have H3X := hide (And.intro g1 (And.intro g2 hgg))
    have hlL : (L ++ (grantD D3 f.st ((f.b.size : Int) - (payV f).size)).2).length ≤ 1000000 := by rw [List.length_append]; omega
    clear g1 g2 g3 hgg
    have hm7 := HL7.out.m
    go_wp2_with fail
    refine (implGiveBack lo g (grantD D3 f.st ((f.b.size : Int) - (payV f).size)).1 _ by7 0 ((f.b.size : Int) - (payV f).size) _ hm7 (by rw [H3X.out.2.1, H3X.out.1]; exact hD3l.1) (by rw [H3X.out.1]; exact hD3l.2) hlL (by omega) (by omega) (.inl rfl) (fun _ hn => ?gg) (fun h => absurd rfl h)).mono ?_
    case gg =>
      rw [H3X.out.2.2, H3D.out]
      exact gr_fits (win_of (by omega) (by omega)) (by omega) (by omega) (by omega)
    rintro x w8 ⟨rfl, by8, hl8⟩
    have HL8 := hide (HL7.out.step hl8)
    clear hl8 hm7 HL7
    go_wp2_with fail
    first | go_end0 | refine bodyPost_ret (results_none rfl _ _ _) rfl ?_
    rw [HE2.out]
    refine ⟨rfl, by8, ?_⟩
    have hfin := HL8.out
    (try rw [List.append_assoc] at hfin)
    exact hfin
end Go.Proofs.YtllaeakeaabiaaaGreat
