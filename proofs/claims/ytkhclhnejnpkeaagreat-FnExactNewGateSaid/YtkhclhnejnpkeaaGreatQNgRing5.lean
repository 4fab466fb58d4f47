/- The ring of a table, and whether the table is right. -/
import Derived.Test.YtkhclhnejnpkeaaGreatQNgG10
import Derived.Test.YtkhclhnejnpkeaaGreatQNgG6
import Derived.Deep.Cut
namespace Go.Proofs.YtkhclhnejnpkeaaGreat
open Go.RowKit
set_option maxRecDepth 100000
set_option linter.unusedSimpArgs false
set_option linter.unusedVariables false

theorem ringS_fine (first : Nat) {L : List Fd} (hf : ∀ f ∈ L, f.fine) : ∀ f ∈ ringS first L, f.fine := by
  intro f h
  obtain ⟨k, _, rfl⟩ := List.mem_map.1 h
  generalize (k + 112 - first) % 112 = i
  by_cases hi : i < L.length
  · simp only [List.getD_eq_getElem?_getD, List.getElem?_eq_getElem hi, Option.getD_some]
    exact hf _ (List.getElem_mem hi)
  · rw [List.getD_eq_getElem?_getD, List.getElem?_eq_none (by omega)]
    exact ⟨by decide, by decide⟩
theorem yields_eql {P : Program} {ops : Array Oper} {S : World → Prop} {op : Oper} {a : Act} (hw : Region.wanted op (yielded ops a.tmps) = true) (ty t : TypeId) (x y : Operand) (ho : op.op = .binOp .eql ty x y t)
    (X Y : Array Value) (c : Bool) (hx : a.eval x = .agg X) (hy : a.eval y = .agg Y) (hm : P.eqGuardType P.depth ty = false) (h : ∀ w, (binOp .eql ty (.agg X) (.agg Y)).run P w = .ok (.bool c) w) : YieldsIf P ops S op (.bool c) a :=
  .inl ⟨hw, fun w _ => by
    unfold execOp
    simp only [ho, hx, hy, Sem.run_bind, Sem.run_pure, Result.andThen_ok, run_eqGuard_agg w _ _ _ _ _ _ hm, h w]⟩
theorem rowIs_range2 {w : World} {b : Nat} {t : TypeId} {cs xs : List Value} (h : RowIs w b t cs) (he : ∃ ys, cs = xs ++ ys) : w.rangeAt b 0 xs := by
  obtain ⟨ys, rfl⟩ := he
  exact rowIs_range h
theorem ret_ring {w : World} {a : Act} {b : Nat} {cs : List Value} {R : Ending → World → Prop} {c : Bool} {t2 t3 : Tmp} (hres : Tryz.f128.results = #[.cell t2 193, .tmp t3])
    (hp : a.tmps.getD t2 undef = .pointer (some ⟨b, 0, none⟩)) (hc : a.tmps.getD t3 undef = .bool c) (hd : a.defers = []) (hr : RowIs w b 193 cs) (hl : cs.length = 227)
    (h : R (.returned (.tuple #[.agg cs.toArray, .bool c])) w) : bodyPost Tryz.prog Tryz.f128 R .ret a w := by
  have hld := run_loadVar_row (P := Tryz.prog) w b 193 193 cs.toArray (0, 0) _ hr Tryz.underlying193 rfl (by rw [show cs.toArray.size = 227 by simpa using hl]; exact ringZ_zero.2)
  refine bodyPost_ret (v := .tuple #[.agg cs.toArray, .bool c]) ?_ hd h
  rw [results_cell_tmp hres]
  simp [hp, hc, asAddr, Result.andThen, hld]

set_option maxRecDepth 100000 in
set_option maxHeartbeats 4000000 in
theorem ringOf1 (L : List Fd) (room : Int) (v : Value) (w : World) (hr0 : Reads w v L.length 2 (fv L)) (hf : ∀ f ∈ L, f.fine) :
    Calls Tryz.prog 128 #[.agg #[.int .i64 room, v]] w fun x w' => ∃ cs : List Value, cs.length = 227 ∧ (∀ u ∈ cs, u.oneCell' = true) ∧ x = .returned (.tuple #[.agg cs.toArray, .bool (okT room L)]) ∧ (okT room L = true → cs = rC (ringS 0 L) 0 L.length (sumW L)) ∧ Below w.heap.size w w' := by
  have HF := hide hf
  obtain ⟨hl, ad, cap, rfl, h1, h2, h3⟩ := hr0
  have H3 := hide h3
  clear h3 hf
  unfold maxLen at h2
  obtain ⟨R, hR⟩ : ∃ R, R = okT room L := ⟨_, rfl⟩
  rw [← hR]
  have HRR := hide hR
  clear hR
  go_enter Tryz.func128, Tryz.ntmps128
  go_wp2_with (refine wpList_alloc_row (by rfl) 193 (by rfl) ringZ ringZ_zero.1 ?_)
  generalize hV : ((w.alloc (.cells #[.int .i64 room, .slice ad L.length cap] 60)).alloc (.cells ringZ.toArray 193)).alloc (.cells ringZ.toArray 193) = V
  have hbV : Below w.heap.size w V := by rw [← hV]; exact bo_alloc (bo_alloc ((Below.refl _ _).alloc (Nat.le_refl _) _) _) _
  have hx : RowIs V w.heap.size 60 [.int .i64 room, .slice ad L.length cap] := by rw [← hV]; exact ((rowIs_new w 60 [.int .i64 room, .slice ad L.length cap]).alloc _).alloc _
  have hr2 : RowIs V (w.heap.size + 1) 193 ringZ := by rw [← hV]; exact (by simpa using rowIs_new (w.alloc (.cells #[.int .i64 room, .slice ad L.length cap] 60)) 193 ringZ : RowIs _ (w.heap.size + 1) _ _).alloc _
  have hr4 : RowIs V (w.heap.size + 1 + 1) 193 ringZ := by rw [← hV]; simpa using rowIs_new ((w.alloc (.cells #[.int .i64 room, .slice ad L.length cap] 60)).alloc (.cells ringZ.toArray 193)) 193 ringZ
  clear hV
  have x0 := hx.cell (j := 0) rfl
  have x1 := hx.cell (j := 1) rfl
  cases hrm : inB room 0 1000
  · have hRf := HRR.out.trans (okT_room hrm)
    subst hRf
    clear HRR
    refine (implRoom room _).mono ?_; rw [hrm]; rintro x w1 ⟨rfl, rfl⟩
    have hR4 := hide hr4; have hR2 := hide hr2
    clear hr4 hr2 hx
    go_upto_region 3 with fail
    refine wp_region_lit ?_
    refine wpList_load_row (by rfl) 193 _ (by rfl) (w.heap.size + 1 + 1) (by rfl) (ringZ) _ 193 hR4.out Tryz.underlying193 rfl (by rw [ringZ_len]; exact ringZ_zero.2) ?_
    refine wpList_store_row (by rfl) 193 _ _ (by rfl) (w.heap.size + 1) (ringZ) (by rfl) (by rfl) 193 (ringZ) hR2.out (by rw [ringZ_len]; exact ringZ_zero.2) (Eq.trans ringZ_len (Eq.symm ringZ_len)) (rC_one _ _ _ _) ?_
    go_wp2_with fail
    refine ret_ring (t2 := 2) (t3 := 3) (by rfl) (by rfl) (by rfl) (by rfl) (rowIs_setRow hR2.out) ringZ_len ?_
    exact ⟨ringZ, ringZ_len, rC_one _ _ _ _, rfl, (fun h => by cases h), below_setRow hbV (by omega) _⟩
  by_cases hlen : (111 : Int) < L.length
  · have hRf := HRR.out.trans (okT_long (by omega))
    subst hRf
    clear HRR
    refine (implRoom room _).mono ?_; rw [hrm]; rintro x w1 ⟨rfl, rfl⟩
    have hR4 := hide hr4; have hR2 := hide hr2
    clear hr4 hr2 hx
    go_upto_region 3 with fail
    refine wp_region_lit ?_
    refine wpList_load_row (by rfl) 193 _ (by rfl) (w.heap.size + 1 + 1) (by rfl) (ringZ) _ 193 hR4.out Tryz.underlying193 rfl (by rw [ringZ_len]; exact ringZ_zero.2) ?_
    refine wpList_store_row (by rfl) 193 _ _ (by rfl) (w.heap.size + 1) (ringZ) (by rfl) (by rfl) 193 (ringZ) hR2.out (by rw [ringZ_len]; exact ringZ_zero.2) (Eq.trans ringZ_len (Eq.symm ringZ_len)) (rC_one _ _ _ _) ?_
    go_wp2_with fail
    refine ret_ring (t2 := 2) (t3 := 3) (by rfl) (by rfl) (by rfl) (by rfl) (rowIs_setRow hR2.out) ringZ_len ?_
    exact ⟨ringZ, ringZ_len, rC_one _ _ _ _, rfl, (fun h => by cases h), below_setRow hbV (by omega) _⟩
  refine (implRoom room _).mono ?_; rw [hrm]; rintro x w1 ⟨rfl, rfl⟩
  have hR4 := hide hr4; have hR2 := hide hr2; have hX := hide hx
  clear hr4 hr2 hx
  go_wp2_with fail
  go_loopw [22] (fun i wr => ∃ (k : Nat), i = .int .i64 k ∧ k ≤ L.length ∧ (∀ f ∈ L.take k, okF f = true) ∧ RingAt wr (w.heap.size + 1 + 1) 0 (L.take k) ∧ RowIs wr (w.heap.size + 1) 193 ringZ ∧ RowIs wr w.heap.size 60 [.int .i64 room, .slice ad L.length cap] ∧ Below w.heap.size w wr) (fun i _ => L.length - (intOf i).toNat)
  case atStart => exact ⟨0, rfl, Nat.zero_le _, by simp, by simpa using ringZ_at hR4.out, hR2.out, hX.out, hbV⟩
  case round =>
    clear x0 x1 hR4 hR2 hX hbV
    obtain ⟨k, rfl, hk, hall, hra, hr2, hx, hb⟩ := hrel
    by_cases hlt : k < L.length
    · obtain ⟨b, o, rfl, hbw, hc⟩ := H3.out (by omega)
      obtain ⟨s0, s1⟩ := fv_get L k hlt
      have hfk := HF.out _ (List.getElem_mem hlt)
      have HA := hide (all_take_succ L k hlt hall)
      have HBD := hide (okT_bad (room := room) k hlt)
      have HTK : Hid (L.take (k + 1) = L.take k ++ [L[k]]) := List.take_succ_eq_append_getElem hlt
      obtain ⟨f, hff⟩ : ∃ f, f = L[k] := ⟨_, rfl⟩
      rw [← hff] at s0 s1 hfk HA HBD HTK
      have c0 : wr.cell? ⟨b, o + k * 2, none⟩ = some (.string f.n) := by rw [hb.cell (p := ⟨b, o + k * 2, none⟩) hbw]; exact hc _ _ s0
      have c1 : wr.cell? ⟨b, o + k * 2 + 1, none⟩ = some (.string f.v) := by rw [hb.cell (p := ⟨b, o + k * 2 + 1, none⟩) hbw]; exact hc _ _ s1
      clear hc s0 s1 hff
      have HR := hide hra; have HR2 := hide hr2; have HX := hide hx; have HB := hide hb; have HALL := hide hall
      clear hra hr2 hx hb hall
      go_wp2_with fail
      have hbA : Below wr.heap.size wr (wr.alloc (.cells #[.string f.n, .string f.v] 160)) := (Below.refl _ _).alloc (Nat.le_refl _) _
      have y0 : (wr.alloc (.cells #[.string f.n, .string f.v] 160)).cell? ⟨wr.heap.size, 0, none⟩ = some (.string f.n) := box_cell0 _ _ rfl _ _ _
      have y1 : (wr.alloc (.cells #[.string f.n, .string f.v] 160)).cell? ⟨wr.heap.size, 1, none⟩ = some (.string f.v) := box_cell1 _ _ rfl _ _ _
      have hlA : wr.heap.size < (wr.alloc (.cells #[.string f.n, .string f.v] 160)).heap.size := by simp
      generalize wr.alloc (.cells #[.string f.n, .string f.v] 160) = wa at *
      cases hok : okF f
      · have hRf := HRR.out.trans (HBD.out hok)
        subst hRf
        clear HBD HRR HA HTK
        refine (implRight f _ hfk).mono ?_; rw [hok]; rintro x w1 ⟨rfl, hb1⟩
        have hb1' := bchain hbA hb1
        have hrr := (HR.out.new hb1').row
        have hrz := HR2.out.new hb1'
        have hcl := rC_len (ringS_len 0 (L.take k)) ((0 : Nat) : Int) (L.take k).length (sumW (L.take k))
        generalize hcs : rC (ringS 0 (L.take k)) ((0 : Nat) : Int) (L.take k).length (sumW (L.take k)) = cs at *
        have hone : ∀ u ∈ cs, u.oneCell' = true := by rw [← hcs]; exact rC_one _ _ _ _
        have HRR := hide hrr; have HRZ := hide hrz; have HONE := hide hone
        have HBW := hide (bchain HB.out hb1')
        have hsz := HB.out.size
        clear hrr hrz hone hcs hb1 hb1' hbA y0 y1 c0 c1
        go_upto_region 8 with fail
        refine wp_region_lit ?_
        refine wpList_load_row (by rfl) 193 _ (by rfl) (w.heap.size + 1 + 1) (by rfl) (cs) _ 193 HRR.out Tryz.underlying193 rfl (by rw [hcl]; exact ringZ_zero.2) ?_
        refine wpList_store_row (by rfl) 193 _ _ (by rfl) (w.heap.size + 1) (cs) (by rfl) (by rfl) 193 (ringZ) HRZ.out (by rw [hcl]; exact ringZ_zero.2) (Eq.trans ringZ_len (Eq.symm hcl)) (HONE.out) ?_
        go_wp2_with fail
        refine ret_ring (t2 := 2) (t3 := 3) (by rfl) (by rfl) (by rfl) (by rfl) (rowIs_setRow HRZ.out) hcl ?_
        exact ⟨cs, hcl, HONE.out, rfl, (fun h => by cases h), below_setRow HBW.out (by omega) _⟩
      · refine (implRight f _ hfk).mono ?_; rw [hok]; rintro x w1 ⟨rfl, hb1⟩
        have z0 := (hb1.cell (p := ⟨wr.heap.size, 0, none⟩) hlA).trans y0
        have z1 := (hb1.cell (p := ⟨wr.heap.size, 1, none⟩) hlA).trans y1
        have hb1' := bchain hbA hb1
        have HR1 := hide (HR.out.new hb1'); have HZ1 := hide (HR2.out.new hb1'); have HX1 := hide (HX.out.new hb1'); have HB1 := hide (bchain HB.out hb1')
        have hAk := HA.out hok
        have HAK := hide hAk
        have hbs : wr.heap.size ≤ w1.heap.size := hb1'.size
        have hxl := HX.out.lt
        clear hb1 hb1' hbA y0 y1 c0 c1 HR HR2 HX hAk HA
        have htl : (L.take k).length = k := by rw [List.length_take]; omega
        have hrg := sumW_range (L.take k)
        go_wp2_with fail
        have hrow := HR1.out.row
        rw [htl] at hrow
        refine (putLast1 (w.heap.size + 1 + 1) 0 k (ringS 0 (L.take k)) (sumW (L.take k)) f _ (ringS_len _ _) hrow (by omega) (by omega) hfk hrg.1 (by omega)).mono ?_
        rintro x w2 ⟨rfl, hr5, ht2⟩
        have hra5 : RingAt w2 (w.heap.size + 1 + 1) 0 (L.take (k + 1)) := by
          refine ⟨by omega, by rw [List.length_take]; omega, ?_⟩
          have e1 := ringS_last (first := 0) (L := L.take k) f (by omega) (by omega)
          rw [htl] at e1
          rw [HTK.out, ← e1, sumW_app, List.length_append, htl]
          simpa [sumW] using hr5
        have HR5 := hide hra5
        have HT2 := hide ht2
        clear hr5 hra5 ht2 hrow hrg
        go_wp2_with fail
        go_roundw
        case rel => exact ⟨k + 1, by go_num, by omega, HAK.out, HR5.out, HZ1.out.kept (HT2.out.block _ HZ1.out.lt (by omega)), HX1.out.kept (HT2.out.block _ HX1.out.lt (by omega)), HB1.out.trans (HT2.out.below (by omega) HB1.out.size)⟩
        case measure => simp [intOf]; omega
    · obtain rfl : k = L.length := by omega
      rw [List.take_length] at hall hra
      have hRf := HRR.out.trans (okT_sum hrm hall)
      subst hRf
      clear HRR H3
      have hroom := (inB_true hrm).1
      have hcl := rC_len (ringS_len 0 L) ((0 : Nat) : Int) L.length (sumW L)
      have HRA := hide hra; have HR2 := hide hr2; have HX := hide hx; have HB := hide hb; have HALL := hide hall
      have hl4 := hra.row.lt
      have hl2 := hr2.lt
      clear hra hr2 hx hb hall
      go_upto_region 11 with fail
      refine wp_region_lit ?_
      refine wpList_load_row (by rfl) 193 _ (by rfl) (w.heap.size + 1 + 1) (by rfl) (rC (ringS 0 L) ((0 : Nat) : Int) L.length (sumW L)) _ 193 HRA.out.row Tryz.underlying193 rfl (by rw [hcl]; exact ringZ_zero.2) ?_
      refine wpList_alloc_row (by rfl) 193 (by rfl) ringZ ringZ_zero.1 ?_
      refine wpList_store_row (by rfl) 193 _ _ (by rfl) (wr.heap.size) (rC (ringS 0 L) ((0 : Nat) : Int) L.length (sumW L)) (by rfl) (by rfl) 193 (ringZ) (rowIs_new wr 193 ringZ) (by rw [hcl]; exact ringZ_zero.2) (Eq.trans ringZ_len (Eq.symm hcl)) (rC_one _ _ _ _) ?_
      have hb7 : Below wr.heap.size wr ((wr.alloc (.cells ringZ.toArray 193)).setRow wr.heap.size (rC (ringS 0 L) ((0 : Nat) : Int) L.length (sumW L)).toArray) := below_setRow ((Below.refl _ _).alloc (Nat.le_refl _) _) (Nat.le_refl _) _
      have hr7 : RingAt ((wr.alloc (.cells ringZ.toArray 193)).setRow wr.heap.size (rC (ringS 0 L) ((0 : Nat) : Int) L.length (sumW L)).toArray) wr.heap.size 0 L := ⟨by omega, by omega, rowIs_setRow (rowIs_new wr 193 ringZ)⟩
      generalize (wr.alloc (.cells ringZ.toArray 193)).setRow wr.heap.size (rC (ringS 0 L) ((0 : Nat) : Int) L.length (sumW L)).toArray = w7 at *
      have HR7 := hide hr7
      have x0 := (HX.out.new hb7).cell (j := 0) rfl
      have HX7 := hide (HX.out.new hb7)
      clear hr7
      go_wp2_with fail
      refine (fit1 wr.heap.size 0 L room _ HR7.out HALL.out hroom).mono ?_; rintro x w8 ⟨rfl, hra8, ht8⟩
      have hra4 := (HRA.out.new hb7).turn ht8 (by omega)
      have hrz8 := (HR2.out.new hb7).kept (ht8.block _ (HR2.out.new hb7).lt (by omega))
      have HBW := hide (HB.out.trans ((hb7.mono HB.out.size).trans (ht8.below (by omega) (by have := hb7.size; have := HB.out.size; omega))))
      have heq := eqRings (ringS 0 (shr room L)) (ringS 0 L) (ringS_len _ _) (ringS_len _ _) (ringS_fine 0 fun f hf => fine_of (shr_all HALL.out f hf)) (ringS_fine 0 fun f hf => fine_of (HALL.out f hf)) (decide (sumW L ≤ room)) (by rw [decide_eq_true_eq]; exact (ring_fits hroom (by omega) HALL.out).symm)
      have HEQ := hide heq
      have H8 := hide hra8.row; have H4 := hide hra4.row; have HZ8 := hide hrz8
      have hcl8 := rC_len (ringS_len 0 (shr room L)) ((0 : Nat) : Int) (shr room L).length (sumW (shr room L))
      have hf8 : (fv (ringS 0 (shr room L))).length = 224 := by rw [fv_len, ringS_len]
      have hf4 : (fv (ringS 0 L)).length = 224 := by rw [fv_len, ringS_len]
      have hi51 : (Tryz.prog.info? 191).map (·.size) = some 224 := by kernel_rfl
      clear heq hra8 hra4 hrz8 x0
      have E4 : ∃ ys, rC (ringS 0 L) ((0 : Nat) : Int) L.length (sumW L) = fv (ringS 0 L) ++ ys := ⟨_, rfl⟩
      have E8 : ∃ ys, rC (ringS 0 (shr room L)) ((0 : Nat) : Int) (shr room L).length (sumW (shr room L)) = fv (ringS 0 (shr room L)) ++ ys := ⟨_, rfl⟩
      have hone4 := rC_one (ringS 0 L) ((0 : Nat) : Int) L.length (sumW L)
      have hzl := ringZ_len
      have hi53 := ringZ_zero.2
      go_upto_region 13 with fail
      generalize hc4 : rC (ringS 0 L) ((0 : Nat) : Int) L.length (sumW L) = c4 at H4 E4 hcl hone4 ⊢
      generalize hc8 : rC (ringS 0 (shr room L)) ((0 : Nat) : Int) (shr room L).length (sumW (shr room L)) = c8 at H8 E8 hcl8
      generalize fv (ringS 0 L) = f4 at HEQ E4 hf4
      generalize fv (ringS 0 (shr room L)) = f8 at HEQ E8 hf8
      generalize ringZ = rz at HZ8 hzl
      have HC4 := hide hc4; have HE4 := hide E4; have HE8 := hide E8; have HONE := hide hone4
      have hsz4 : c4.toArray.size = 227 := by simpa using hcl
      have hsz0 : rz.toArray.size = c4.toArray.size := by simp [hzl, hcl]
      clear hc4 hc8 E4 E8 hone4 HRA HR2 HX HR7 HX7
      have hS0 := And.intro H4.out H8.out
      refine wp_region_held_drew (S := (fun u => RowIs u (w.heap.size + 1 + 1) 193 c4 ∧ RowIs u wr.heap.size 193 c8)) (by kernel_rfl) hS0 (fun hS => ?_)
      refine wpAnyH_take (i := 0) (v := .agg c4.toArray) rfl (by kernel_rfl) (by kernel_rfl) (by kernel_rfl) (fun _ _ _ h => h) (yieldsIf_load_row (by rfl) 193 _ (by rfl) (w.heap.size + 1 + 1) (by rfl) c4 _ 193 (fun _ h => h.1) Tryz.underlying193 rfl (by rw [hcl]; exact hi53)) hS ?_
      refine wpAnyH_take (i := 1) (v := ?_) rfl (by kernel_rfl) (by kernel_rfl) (by kernel_rfl) (fun _ _ _ h => h) (Or.inl ⟨by rfl, ?_⟩) hS ?_; rotate_left; focus (intro w hw; clear hw; go_simp; try with_reducible rfl)
      refine wpAnyH_take (i := 3) (v := ?_) rfl (by kernel_rfl) (by kernel_rfl) (by kernel_rfl) (fun _ _ _ h => h) (Or.inl ⟨by rfl, ?_⟩) hS ?_; rotate_left; focus (intro w hw; clear hw; go_simp; try with_reducible rfl)
      refine wpAnyH_take (i := 2) (v := .agg f8.toArray) rfl (by kernel_rfl) (by kernel_rfl) (by kernel_rfl) (fun _ _ _ h => h) (yieldsIf_load_mid (by rfl) 191 _ (by rfl) wr.heap.size 0 (by rfl) f8 _ (fun _ h => rowIs_range2 h.2 HE8.out) Tryz.underlying191 rfl (by rw [hf8]; exact hi51)) hS ?_
      refine wpAnyH_take (i := 4) (v := .agg f4.toArray) rfl (by kernel_rfl) (by kernel_rfl) (by kernel_rfl) (fun _ _ _ h => h) (yieldsIf_load_mid (by rfl) 191 _ (by rfl) (w.heap.size + 1 + 1) 0 (by rfl) f4 _ (fun _ h => rowIs_range2 h.1 HE4.out) Tryz.underlying191 rfl (by rw [hf4]; exact hi51)) hS ?_
      refine wpAnyH_take (i := 5) (v := .bool (decide (sumW L ≤ room))) rfl (by kernel_rfl) (by kernel_rfl) (by kernel_rfl) (fun _ _ _ h => h) (yields_eql (by rfl) 191 191 _ _ (by rfl) f8.toArray f4.toArray _ (by rfl) (by rfl) (by kernel_rfl) HEQ.out) hS ?_
      have hst : (storeCells ⟨w.heap.size + 1, 0, none⟩ c4).run Tryz.prog (World.drew w8) = .ok () ((World.drew w8).setRow (w.heap.size + 1) c4.toArray) := by
        have h0 : (World.drew w8).heap[w.heap.size + 1]? = some (.cells rz.toArray 193 (0, 0)) := HZ8.out
        have := run_storeVar_row (P := Tryz.prog) (World.drew w8) (w.heap.size + 1) 193 193 rz.toArray c4.toArray h0 (by rw [hsz4]; exact hi53) hsz0 (all_oneCell_toArray HONE.out)
        obtain ⟨i53, hi⟩ : ∃ i, Tryz.prog.info? 193 = some i := by
          cases hq : Tryz.prog.info? 193 with
          | none => rw [hq] at hi53; cases hi53
          | some i => exact ⟨i, rfl⟩
        have hs : i53.size = 227 := by rw [hi] at hi53; simpa using hi53
        simpa [storeVar, sizeOf, typeInfo, hi, Value.cells, hs, hcl] using this
      refine wpAnyH_ready (rs := [6]) (by kernel_rfl) (by simp) ?_
      refine AllReadyH.cons rfl (fun K hK => ?_) AllReadyH.nil
      go_simp
      have hrr9 := rowIs_setRow (cs' := c4) (show RowIs (World.drew w8) (w.heap.size + 1) 193 rz from HZ8.out)
      refine hK.out _ _ ⟨hS.1.kept (setRow_other _ _ _ _ (by omega)), hS.2.kept (setRow_other _ _ _ _ (by omega))⟩ (fun hS => ?_)
      clear hK K
      refine wpAnyH_take (i := 7) (v := ?_) rfl (by kernel_rfl) (by kernel_rfl) (by kernel_rfl) (fun _ _ _ h => h) (Or.inl ⟨by rfl, ?_⟩) hS ?_; rotate_left; focus (intro w hw; clear hw; go_simp; try with_reducible rfl)
      refine wpAnyH_done (by kernel_rfl) ?_ _
      have HR9 := hide hrr9
      clear hrr9 hS0 hS
      go_wp2_with fail
      refine ret_ring (t2 := 2) (t3 := 3) (by rfl) (by rfl) (by rfl) (by rfl) HR9.out hcl ?_
      exact ⟨_, hcl, HONE.out, rfl, fun _ => HC4.out.symm, below_setRow (bo_drewN 1 HBW.out) (by omega) _⟩
end Go.Proofs.YtkhclhnejnpkeaaGreat
