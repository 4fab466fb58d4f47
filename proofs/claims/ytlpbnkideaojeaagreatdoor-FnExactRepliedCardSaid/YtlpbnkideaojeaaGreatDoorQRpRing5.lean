/- Lemmas. -/
import Derived.Test.YtlpbnkideaojeaaGreatDoorQRpG11
namespace Go.Proofs.YtlpbnkideaojeaaGreatDoor
open Go.RowKit
set_option maxRecDepth 100000
set_option linter.unusedSimpArgs false
set_option linter.unusedVariables false
theorem OB (first : Nat) {L : List Fd} (hf : ∀ f ∈ L, f.fine) : ∀ f ∈ cu first L, f.fine := by
 intro f h
 obtain ⟨k, _, rfl⟩ := List.mem_map.1 h
 generalize (k + 112 - first) % 112 = i
 by_cases hi : i < L.length
 ·simp only [List.getD_eq_getElem?_getD, List.getElem?_eq_getElem hi, Option.getD_some]
  exact hf _ (List.getElem_mem hi)
 ·rw [List.getD_eq_getElem?_getD, List.getElem?_eq_none (by omega)]
  exact ⟨by decide, by decide⟩
theorem YM {P : Program} {ops : Array Oper} {S : World → Prop} {op : Oper} {a : Act} (hw : Region.wanted op (yielded ops a.tmps) = true) (ty t : TypeId) (x y : Operand) (ho : op.op = .binOp .eql ty x y t)
  (X Y : Array Value) (c : Bool) (hx : a.eval x = .agg X) (hy : a.eval y = .agg Y) (hm : P.eqGuardType P.depth ty = false) (h : ∀ w, (binOp .eql ty (.agg X) (.agg Y)).run P w = .ok (.bool c) w) : YieldsIf P ops S op (.bool c) a :=
 .inl ⟨hw, fun w _ => by
  unfold execOp
  simp only [ho, hx, hy, Sem.run_bind, Sem.run_pure, Result.andThen_ok, run_eqGuard_agg w _ _ _ _ _ _ hm, h w]⟩
theorem OC {w : World} {b : Nat} {t : TypeId} {cs xs : List Value} (h : aj w b t cs) (he : ∃ ys, cs = xs ++ ys) : w.rangeAt b 0 xs := by
 obtain ⟨ys, rfl⟩ := he
 exact YN h
theorem Em {w : World} {a : Act} {b : Nat} {cs : List Value} {R : Ending → World → Prop} {c : Bool} {t2 t3 : Tmp} (hres : Tryz.f115.results = #[.cell t2 172, .tmp t3])
  (hp : a.tmps.getD t2 undef = .pointer (some ⟨b, 0, none⟩)) (hc : a.tmps.getD t3 undef = .bool c) (hd : a.defers = []) (hr : aj w b 172 cs) (hl : cs.length = 227)
  (h : R (.returned (.tuple #[.agg cs.toArray, .bool c])) w) : bodyPost Tryz.prog Tryz.f115 R .ret a w := by
 have hld := run_loadVar_row (P := Tryz.prog) w b 172 172 cs.toArray (0, 0) _ hr Tryz.underlying172 rfl (by rw [show cs.toArray.size = 227 by simpa using hl]; exact jd.2)
 refine bodyPost_ret (v := .tuple #[.agg cs.toArray, .bool c]) ?_ hd h
 rw [results_cell_tmp hres]
 simp [hp, hc, asAddr, Result.andThen, hld]
set_option maxRecDepth 100000 in
set_option maxHeartbeats 4000000 in
theorem IX (L : List Fd) (room : Int) (v : Value) (w : World) (hr0 : Reads w v L.length 2 (fv L)) (hf : ∀ f ∈ L, f.fine) :
  Calls Tryz.prog 115 #[.agg #[.int .i64 room, v]] w fun x w' => ∃ cs : List Value, cs.length = 227 ∧ (∀ u ∈ cs, u.oneCell' = true) ∧ x = .returned (.tuple #[.agg cs.toArray, .bool (bI room L)]) ∧ (bI room L = true → cs = rC (cu 0 L) 0 L.length (aS L)) ∧ Below w.heap.size w w' := by
 have HF := hide hf
 obtain ⟨hl, ad, cap, rfl, h1, h2, h3⟩ := hr0
 have H3 := hide h3
 clear h3 hf
 unfold maxLen at h2
 obtain ⟨R, hR⟩ : ∃ R, R = bI room L := ⟨_, rfl⟩
 rw [← hR]
 have HRR := hide hR
 clear hR
 go_enter Tryz.func115, Tryz.ntmps115
 go_wp2_with (refine wJ (by rfl) 172 (by rfl) bR jd.1 ?_)
 generalize hV : ((w.alloc (.cells #[.int .i64 room, .slice ad L.length cap] 37)).alloc (.cells bR.toArray 172)).alloc (.cells bR.toArray 172) = V
 have aO : Below w.heap.size w V := by rw [← hV]; exact aA (aA ((Below.refl _ _).alloc (Nat.le_refl _) _) _) _
 have hx : aj V w.heap.size 37 [.int .i64 room, .slice ad L.length cap] := by rw [← hV]; exact ((aB w 37 [.int .i64 room, .slice ad L.length cap]).alloc _).alloc _
 have hr2 : aj V (w.heap.size + 1) 172 bR := by rw [← hV]; exact (by simpa using aB (w.alloc (.cells #[.int .i64 room, .slice ad L.length cap] 37)) 172 bR : aj _ (w.heap.size + 1) _ _).alloc _
 have hr4 : aj V (w.heap.size + 1 + 1) 172 bR := by rw [← hV]; simpa using aB ((w.alloc (.cells #[.int .i64 room, .slice ad L.length cap] 37)).alloc (.cells bR.toArray 172)) 172 bR
 clear hV
 have x0 := hx.cell (j := 0) rfl
 have x1 := hx.cell (j := 1) rfl
 cases hrm : aQ room 0 1000
 ·have jO := HRR.out.trans (Ml hrm)
  subst jO
  clear HRR
  refine (Av room _).mono ?_; rw [hrm]; rintro x w1 ⟨rfl, rfl⟩
  have qE := hide hr4; have hR2 := hide hr2
  clear hr4 hr2 hx
  go_upto_region 3 with fail
  refine wp_region_lit ?_
  refine wpList_load_row (by rfl) 172 _ (by rfl) (w.heap.size + 1 + 1) (by rfl) (bR) _ 172 qE.out Tryz.underlying172 rfl (by rw [jD]; exact jd.2) ?_
  refine wpList_store_row (by rfl) 172 _ _ (by rfl) (w.heap.size + 1) (bR) (by rfl) (by rfl) 172 (bR) hR2.out (by rw [jD]; exact jd.2) (Eq.trans jD (Eq.symm jD)) (wI _ _ _ _) ?_
  go_wp2_with fail
  refine Em (t2 := 2) (t3 := 3) (by rfl) (by rfl) (by rfl) (by rfl) (dW hR2.out) jD ?_
  exact ⟨bR, jD, wI _ _ _ _, rfl, (fun h => by cases h), below_setRow aO (by omega) _⟩
 by_cases hlen : (111 : Int) < L.length
 ·have jO := HRR.out.trans (Mq (by omega))
  subst jO
  clear HRR
  refine (Av room _).mono ?_; rw [hrm]; rintro x w1 ⟨rfl, rfl⟩
  have qE := hide hr4; have hR2 := hide hr2
  clear hr4 hr2 hx
  go_upto_region 3 with fail
  refine wp_region_lit ?_
  refine wpList_load_row (by rfl) 172 _ (by rfl) (w.heap.size + 1 + 1) (by rfl) (bR) _ 172 qE.out Tryz.underlying172 rfl (by rw [jD]; exact jd.2) ?_
  refine wpList_store_row (by rfl) 172 _ _ (by rfl) (w.heap.size + 1) (bR) (by rfl) (by rfl) 172 (bR) hR2.out (by rw [jD]; exact jd.2) (Eq.trans jD (Eq.symm jD)) (wI _ _ _ _) ?_
  go_wp2_with fail
  refine Em (t2 := 2) (t3 := 3) (by rfl) (by rfl) (by rfl) (by rfl) (dW hR2.out) jD ?_
  exact ⟨bR, jD, wI _ _ _ _, rfl, (fun h => by cases h), below_setRow aO (by omega) _⟩
 refine (Av room _).mono ?_; rw [hrm]; rintro x w1 ⟨rfl, rfl⟩
 have qE := hide hr4; have hR2 := hide hr2; have hX := hide hx
 clear hr4 hr2 hx
 go_wp2_with fail
 go_loopw [22] (fun i wr => ∃ (k : Nat), i = .int .i64 k ∧ k ≤ L.length ∧ (∀ f ∈ L.take k, okF f = true) ∧ RingAt wr (w.heap.size + 1 + 1) 0 (L.take k) ∧ aj wr (w.heap.size + 1) 172 bR ∧ aj wr w.heap.size 37 [.int .i64 room, .slice ad L.length cap] ∧ Below w.heap.size w wr) (fun i _ => L.length - (intOf i).toNat)
 case atStart => exact ⟨0, rfl, Nat.zero_le _, by simp, by simpa using YO qE.out, hR2.out, hX.out, aO⟩
 case round =>
  clear x0 x1 qE hR2 hX aO
  obtain ⟨k, rfl, hk, hall, hra, hr2, hx, hb⟩ := hrel
  by_cases hlt : k < L.length
  ·obtain ⟨b, o, rfl, hbw, hc⟩ := H3.out (by omega)
   obtain ⟨s0, s1⟩ := kK L k hlt
   have fT := HF.out _ (List.getElem_mem hlt)
   have HA := hide (Dr L k hlt hall)
   have I4 := hide (Mr (room := room) k hlt)
   have fA : Hid (L.take (k + 1) = L.take k ++ [L[k]]) := List.take_succ_eq_append_getElem hlt
   obtain ⟨f, bK⟩ : ∃ f, f = L[k] := ⟨_, rfl⟩
   rw [← bK] at s0 s1 fT HA I4 fA
   have c0 : wr.cell? ⟨b, o + k * 2, none⟩ = some (.string f.n) := by rw [hb.cell (p := ⟨b, o + k * 2, none⟩) hbw]; exact hc _ _ s0
   have c1 : wr.cell? ⟨b, o + k * 2 + 1, none⟩ = some (.string f.v) := by rw [hb.cell (p := ⟨b, o + k * 2 + 1, none⟩) hbw]; exact hc _ _ s1
   clear hc s0 s1 bK
   have HR := hide hra; have HR2 := hide hr2; have HX := hide hx; have HB := hide hb; have kF := hide hall
   clear hra hr2 hx hb hall
   go_wp2_with fail
   have aP : Below wr.heap.size wr (wr.alloc (.cells #[.string f.n, .string f.v] 104)) := (Below.refl _ _).alloc (Nat.le_refl _) _
   have y0 : (wr.alloc (.cells #[.string f.n, .string f.v] 104)).cell? ⟨wr.heap.size, 0, none⟩ = some (.string f.n) := Iz _ _ rfl _ _ _
   have y1 : (wr.alloc (.cells #[.string f.n, .string f.v] 104)).cell? ⟨wr.heap.size, 1, none⟩ = some (.string f.v) := IB _ _ rfl _ _ _
   have hlA : wr.heap.size < (wr.alloc (.cells #[.string f.n, .string f.v] 104)).heap.size := by simp
   generalize wr.alloc (.cells #[.string f.n, .string f.v] 104) = wa at *
   cases hok : okF f
   ·have jO := HRR.out.trans (I4.out hok)
    subst jO
    clear I4 HRR HA fA
    refine (yu f _ fT).mono ?_; rw [hok]; rintro x w1 ⟨rfl, hb1⟩
    have hb1' := ah aP hb1
    have hrr := (HR.out.new hb1').row
    have hrz := HR2.out.new hb1'
    have hcl := Du (gX 0 (L.take k)) ((0 : Nat) : Int) (L.take k).length (aS (L.take k))
    generalize hcs : rC (cu 0 (L.take k)) ((0 : Nat) : Int) (L.take k).length (aS (L.take k)) = cs at *
    have hone : ∀ u ∈ cs, u.oneCell' = true := by rw [← hcs]; exact wI _ _ _ _
    have HRR := hide hrr; have aZ := hide hrz; have kP := hide hone
    have aC := hide (ah HB.out hb1')
    have hsz := HB.out.size
    clear hrr hrz hone hcs hb1 hb1' aP y0 y1 c0 c1
    go_upto_region 8 with fail
    refine wp_region_lit ?_
    refine wpList_load_row (by rfl) 172 _ (by rfl) (w.heap.size + 1 + 1) (by rfl) (cs) _ 172 HRR.out Tryz.underlying172 rfl (by rw [hcl]; exact jd.2) ?_
    refine wpList_store_row (by rfl) 172 _ _ (by rfl) (w.heap.size + 1) (cs) (by rfl) (by rfl) 172 (bR) aZ.out (by rw [hcl]; exact jd.2) (Eq.trans jD (Eq.symm hcl)) (kP.out) ?_
    go_wp2_with fail
    refine Em (t2 := 2) (t3 := 3) (by rfl) (by rfl) (by rfl) (by rfl) (dW aZ.out) hcl ?_
    exact ⟨cs, hcl, kP.out, rfl, (fun h => by cases h), below_setRow aC.out (by omega) _⟩
   ·refine (yu f _ fT).mono ?_; rw [hok]; rintro x w1 ⟨rfl, hb1⟩
    have z0 := (hb1.cell (p := ⟨wr.heap.size, 0, none⟩) hlA).trans y0
    have z1 := (hb1.cell (p := ⟨wr.heap.size, 1, none⟩) hlA).trans y1
    have hb1' := ah aP hb1
    have HR1 := hide (HR.out.new hb1'); have HZ1 := hide (HR2.out.new hb1'); have yO := hide (HX.out.new hb1'); have HB1 := hide (ah HB.out hb1')
    have hAk := HA.out hok
    have YP := hide hAk
    have hbs : wr.heap.size ≤ w1.heap.size := hb1'.size
    have hxl := HX.out.lt
    clear hb1 hb1' aP y0 y1 c0 c1 HR HR2 HX hAk HA
    have htl : (L.take k).length = k := by rw [List.length_take]; omega
    have hrg := Au (L.take k)
    go_wp2_with fail
    have hrow := HR1.out.row
    rw [htl] at hrow
    refine (Uu (w.heap.size + 1 + 1) 0 k (cu 0 (L.take k)) (aS (L.take k)) f _ (gX _ _) hrow (by omega) (by omega) fT hrg.1 (by omega)).mono ?_
    rintro x w2 ⟨rfl, oK, ht2⟩
    have uQ : RingAt w2 (w.heap.size + 1 + 1) 0 (L.take (k + 1)) := by
     refine ⟨by omega, by rw [List.length_take]; omega, ?_⟩
     have e1 := UU (first := 0) (L := L.take k) f (by omega) (by omega)
     rw [htl] at e1
     rw [fA.out, ← e1, Hl, List.length_append, htl]
     simpa [aS] using oK
    have xO := hide uQ
    have HT2 := hide ht2
    clear oK uQ ht2 hrow hrg
    go_wp2_with fail
    go_roundw
    case rel => exact ⟨k + 1, by go_num, by omega, YP.out, xO.out, HZ1.out.kept (HT2.out.block _ HZ1.out.lt (by omega)), yO.out.kept (HT2.out.block _ yO.out.lt (by omega)), HB1.out.trans (HT2.out.below (by omega) HB1.out.size)⟩
    case measure => simp [intOf]; omega
  ·obtain rfl : k = L.length := by omega
   rw [List.take_length] at hall hra
   have jO := HRR.out.trans (Ms hrm hall)
   subst jO
   clear HRR H3
   have hroom := (jm hrm).1
   have hcl := Du (gX 0 L) ((0 : Nat) : Int) L.length (aS L)
   have dA := hide hra; have HR2 := hide hr2; have HX := hide hx; have HB := hide hb; have kF := hide hall
   have hl4 := hra.row.lt
   have hl2 := hr2.lt
   clear hra hr2 hx hb hall
   go_upto_region 11 with fail
   refine wp_region_lit ?_
   refine wpList_load_row (by rfl) 172 _ (by rfl) (w.heap.size + 1 + 1) (by rfl) (rC (cu 0 L) ((0 : Nat) : Int) L.length (aS L)) _ 172 dA.out.row Tryz.underlying172 rfl (by rw [hcl]; exact jd.2) ?_
   refine wJ (by rfl) 172 (by rfl) bR jd.1 ?_
   refine wpList_store_row (by rfl) 172 _ _ (by rfl) (wr.heap.size) (rC (cu 0 L) ((0 : Nat) : Int) L.length (aS L)) (by rfl) (by rfl) 172 (bR) (aB wr 172 bR) (by rw [hcl]; exact jd.2) (Eq.trans jD (Eq.symm hcl)) (wI _ _ _ _) ?_
   have dK : Below wr.heap.size wr ((wr.alloc (.cells bR.toArray 172)).setRow wr.heap.size (rC (cu 0 L) ((0 : Nat) : Int) L.length (aS L)).toArray) := below_setRow ((Below.refl _ _).alloc (Nat.le_refl _) _) (Nat.le_refl _) _
   have fG : RingAt ((wr.alloc (.cells bR.toArray 172)).setRow wr.heap.size (rC (cu 0 L) ((0 : Nat) : Int) L.length (aS L)).toArray) wr.heap.size 0 L := ⟨by omega, by omega, dW (aB wr 172 bR)⟩
   generalize (wr.alloc (.cells bR.toArray 172)).setRow wr.heap.size (rC (cu 0 L) ((0 : Nat) : Int) L.length (aS L)).toArray = w7 at *
   have oh := hide fG
   have x0 := (HX.out.new dK).cell (j := 0) rfl
   have YQ := hide (HX.out.new dK)
   clear fG
   go_wp2_with fail
   refine (Iw wr.heap.size 0 L room _ oh.out kF.out hroom).mono ?_; rintro x w8 ⟨rfl, OD, nP⟩
   have Bh := (dA.out.new dK).turn nP (by omega)
   have OE := (HR2.out.new dK).kept (nP.block _ (HR2.out.new dK).lt (by omega))
   have aC := hide (HB.out.trans ((dK.mono HB.out.size).trans (nP.below (by omega) (by have := dK.size; have := HB.out.size; omega))))
   have heq := YR (cu 0 (shr room L)) (cu 0 L) (gX _ _) (gX _ _) (OB 0 fun f hf => qj (DW kF.out f hf)) (OB 0 fun f hf => qj (kF.out f hf)) (decide (aS L ≤ room)) (by rw [decide_eq_true_eq]; exact (U4 hroom (by omega) kF.out).symm)
   have I5 := hide heq
   have H8 := hide OD.row; have H4 := hide Bh.row; have I6 := hide OE
   have YS := Du (gX 0 (shr room L)) ((0 : Nat) : Int) (shr room L).length (aS (shr room L))
   have Cg : (fv (cu 0 (shr room L))).length = 224 := by rw [gY, gX]
   have AQ : (fv (cu 0 L)).length = 224 := by rw [gY, gX]
   have OG : (Tryz.prog.info? 170).map (·.size) = some 224 := by kernel_rfl
   clear heq OD Bh OE x0
   have E4 : ∃ ys, rC (cu 0 L) ((0 : Nat) : Int) L.length (aS L) = fv (cu 0 L) ++ ys := ⟨_, rfl⟩
   have E8 : ∃ ys, rC (cu 0 (shr room L)) ((0 : Nat) : Int) (shr room L).length (aS (shr room L)) = fv (cu 0 (shr room L)) ++ ys := ⟨_, rfl⟩
   have I7 := wI (cu 0 L) ((0 : Nat) : Int) L.length (aS L)
   have hzl := jD
   have yP := jd.2
   go_upto_region 13 with fail
   generalize hc4 : rC (cu 0 L) ((0 : Nat) : Int) L.length (aS L) = c4 at H4 E4 hcl I7 ⊢
   generalize hc8 : rC (cu 0 (shr room L)) ((0 : Nat) : Int) (shr room L).length (aS (shr room L)) = c8 at H8 E8 YS
   generalize fv (cu 0 L) = f4 at I5 E4 AQ
   generalize fv (cu 0 (shr room L)) = f8 at I5 E8 Cg
   generalize bR = rz at I6 hzl
   have En := hide hc4; have YT := hide E4; have YU := hide E8; have kP := hide I7
   have YV : c4.toArray.size = 227 := by simpa using hcl
   have hsz0 : rz.toArray.size = c4.toArray.size := by simp [hzl, hcl]
   clear hc4 hc8 E4 E8 I7 dA HR2 HX oh YQ
   have hS0 := And.intro H4.out H8.out
   refine wp_region_held_drew (S := (fun u => aj u (w.heap.size + 1 + 1) 172 c4 ∧ aj u wr.heap.size 172 c8)) (by kernel_rfl) hS0 (fun hS => ?_)
   refine wpAnyH_take (i := 0) (v := .agg c4.toArray) rfl (by kernel_rfl) (by kernel_rfl) (by kernel_rfl) (fun _ _ _ h => h) (YW (by rfl) 172 _ (by rfl) (w.heap.size + 1 + 1) (by rfl) c4 _ 172 (fun _ h => h.1) Tryz.underlying172 rfl (by rw [hcl]; exact yP)) hS ?_
   refine wpAnyH_take (i := 1) (v := ?_) rfl (by kernel_rfl) (by kernel_rfl) (by kernel_rfl) (fun _ _ _ h => h) (Or.inl ⟨by rfl, ?_⟩) hS ?_; rotate_left; focus (intro w hw; clear hw; go_simp; try with_reducible rfl)
   refine wpAnyH_take (i := 3) (v := ?_) rfl (by kernel_rfl) (by kernel_rfl) (by kernel_rfl) (fun _ _ _ h => h) (Or.inl ⟨by rfl, ?_⟩) hS ?_; rotate_left; focus (intro w hw; clear hw; go_simp; try with_reducible rfl)
   refine wpAnyH_take (i := 2) (v := .agg f8.toArray) rfl (by kernel_rfl) (by kernel_rfl) (by kernel_rfl) (fun _ _ _ h => h) (yieldsIf_load_mid (by rfl) 170 _ (by rfl) wr.heap.size 0 (by rfl) f8 _ (fun _ h => OC h.2 YU.out) Tryz.underlying170 rfl (by rw [Cg]; exact OG)) hS ?_
   refine wpAnyH_take (i := 4) (v := .agg f4.toArray) rfl (by kernel_rfl) (by kernel_rfl) (by kernel_rfl) (fun _ _ _ h => h) (yieldsIf_load_mid (by rfl) 170 _ (by rfl) (w.heap.size + 1 + 1) 0 (by rfl) f4 _ (fun _ h => OC h.1 YT.out) Tryz.underlying170 rfl (by rw [AQ]; exact OG)) hS ?_
   refine wpAnyH_take (i := 5) (v := .bool (decide (aS L ≤ room))) rfl (by kernel_rfl) (by kernel_rfl) (by kernel_rfl) (fun _ _ _ h => h) (YM (by rfl) 170 170 _ _ (by rfl) f8.toArray f4.toArray _ (by rfl) (by rfl) (by kernel_rfl) I5.out) hS ?_
   have hst : (storeCells ⟨w.heap.size + 1, 0, none⟩ c4).run Tryz.prog (World.drew w8) = .ok () ((World.drew w8).setRow (w.heap.size + 1) c4.toArray) := by
    have h0 : (World.drew w8).heap[w.heap.size + 1]? = some (.cells rz.toArray 172 (0, 0)) := I6.out
    have := run_storeVar_row (P := Tryz.prog) (World.drew w8) (w.heap.size + 1) 172 172 rz.toArray c4.toArray h0 (by rw [YV]; exact yP) hsz0 (all_oneCell_toArray kP.out)
    obtain ⟨i53, hi⟩ : ∃ i, Tryz.prog.info? 172 = some i := by
     cases hq : Tryz.prog.info? 172 with
     | none => rw [hq] at yP; cases yP
     | some i => exact ⟨i, rfl⟩
    have hs : i53.size = 227 := by rw [hi] at yP; simpa using yP
    simpa [storeVar, sizeOf, typeInfo, hi, Value.cells, hs, hcl] using this
   refine wpAnyH_ready (rs := [6]) (by kernel_rfl) (by simp) ?_
   refine AllReadyH.cons rfl (fun K hK => ?_) AllReadyH.nil
   go_simp
   have kQ := dW (cs' := c4) (show aj (World.drew w8) (w.heap.size + 1) 172 rz from I6.out)
   refine hK.out _ _ ⟨hS.1.kept (setRow_other _ _ _ _ (by omega)), hS.2.kept (setRow_other _ _ _ _ (by omega))⟩ (fun hS => ?_)
   clear hK K
   refine wpAnyH_take (i := 7) (v := ?_) rfl (by kernel_rfl) (by kernel_rfl) (by kernel_rfl) (fun _ _ _ h => h) (Or.inl ⟨by rfl, ?_⟩) hS ?_; rotate_left; focus (intro w hw; clear hw; go_simp; try with_reducible rfl)
   refine wpAnyH_done (by kernel_rfl) ?_ _
   have YX := hide kQ
   clear kQ hS0 hS
   go_wp2_with fail
   refine Em (t2 := 2) (t3 := 3) (by rfl) (by rfl) (by rfl) (by rfl) YX.out hcl ?_
   exact ⟨_, hcl, kP.out, rfl, fun _ => En.out.symm, below_setRow (ay 1 aC.out) (by omega) _⟩
end Go.Proofs.YtlpbnkideaojeaaGreatDoor
