/- The program's gate: what went out of a flight (by gen_gateimpl.py). -/
import Derived.Test.YtkhclhnejnpkeaaGreatQWtGateImpl3
import Derived.Test.YtkhclhnejnpkeaaGreatQWtG2
namespace Go.Proofs.YtkhclhnejnpkeaaGreat
open Go.RowKit
set_option maxRecDepth 100000
set_option linter.unusedSimpArgs false
set_option linter.unusedVariables false
theorem bt_eql (x y : Int × Int) (w : World) : (binOp .eql 99 (btKey x) (btKey y)).run Tryz.prog w = .ok (.bool (decide (x = y))) w := by
  rw [run_eql_struct]
  have h := bt_equal x y w
  unfold Op.equal Op.maxDepth at h
  rw [h]
  rfl
theorem yields_eqlB {P : Program} {ops : Array Oper} {S : World → Prop} {op : Oper} {a : Act} (hw : Region.wanted op (yielded ops a.tmps) = true) (ty t : TypeId) (x y : Operand) (ho : op.op = .binOp .eql ty x y t)
    (X Y : Array Value) (c : Bool) (hx : a.eval x = .agg X) (hy : a.eval y = .agg Y) (hm : P.eqGuardType P.depth ty = false) (h : ∀ w, (binOp .eql ty (.agg X) (.agg Y)).run P w = .ok (.bool c) w) : YieldsIf P ops S op (.bool c) a :=
  .inl ⟨hw, fun w _ => by
    unfold execOp
    simp only [ho, hx, hy, Sem.run_bind, Sem.run_pure, Result.andThen_ok, run_eqGuard_agg w _ _ _ _ _ _ hm, h w]⟩
theorem ct_field (a b : Int) (s : ByteArray) (w : World) : (Instr.field 155 (.agg #[.int .i64 a, .int .i64 b, .string s]) 0).run Tryz.prog w = .ok (.agg #[.int .i64 a, .int .i64 b]) w := by kernel_rfl
theorem mCallF (v : Value) (w : World) : (Go.method 379 73 v "loop.example/g00296/impl.call").run Tryz.prog w = .ok (123, v) w := by kernel_rfl
set_option maxHeartbeats 4000000 in
theorem implIsF (v9 : FgD) (s i : Int) (g : Nat) (w : World) (hg : RowIs w g 99 [.int .i64 s, .int .i64 i]) :
    Calls Tryz.prog 95 #[.agg #[.int .i64 v9.seat, .int .i64 v9.id, .string v9.nm, .string v9.tx], .pointer (some ⟨g, 0, none⟩)] w fun x w' => x = .returned (.bool (decide (brF v9 = (s, i)))) ∧ Below w.heap.size w w' := by
  have hme := mCallF
  obtain ⟨c9, hc9⟩ : ∃ c, decide ((v9.seat, v9.id) = (s, i)) = c := ⟨_, rfl⟩
  have heq := fun w => bt_eql (v9.seat, v9.id) (s, i) w
  simp only [hc9] at heq
  have HEQ := hide heq
  rw [show decide (brF v9 = (s, i)) = c9 from hc9]
  clear hc9 heq
  have hX : Below w.heap.size w (w.alloc (.cells #[.int .i64 v9.seat, .int .i64 v9.id, .string v9.nm, .string v9.tx] 73)) := (Below.refl _ _).alloc (Nat.le_refl _) _
  have RX := rowIs_new w 73 [.int .i64 v9.seat, .int .i64 v9.id, .string v9.nm, .string v9.tx]
  have RG := hg.new hX
  have HB := hide hX
  clear hX hg
  go_enter Tryz.func95, Tryz.ntmps95
  go_upto_region 1 with fail
  generalize w.alloc (.cells #[.int .i64 v9.seat, .int .i64 v9.id, .string v9.nm, .string v9.tx] 73) = W1 at *
  have hD : Below W1.heap.size W1 (World.drew W1) := (Below.refl _ _).drew
  replace RX := RX.new hD
  replace RG := RG.new hD
  replace HB := hide (bchain HB.out hD)
  clear hD
  refine wp_region_held_drew (S := fun u => RowIs u w.heap.size 73 [.int .i64 v9.seat, .int .i64 v9.id, .string v9.nm, .string v9.tx] ∧ RowIs u g 99 [.int .i64 s, .int .i64 i]) (by kernel_rfl) ⟨RX, RG⟩ (fun hS => ?_)
  generalize World.drew W1 = u1 at *
  refine wpAnyH_take (i := 0) (v := .agg #[.int .i64 v9.seat, .int .i64 v9.id, .string v9.nm, .string v9.tx]) rfl (by kernel_rfl) (by kernel_rfl) (by kernel_rfl) (fun _ _ _ h => h) (Or.inl ⟨by kernel_rfl, ?ld⟩) hS ?_; case ld => (intro uu hu; have z0 := RowIs.cell (j := 0) hu.1 rfl; have z1 := RowIs.cell (j := 1) hu.1 rfl; have z2 := RowIs.cell (j := 2) hu.1 rfl; have z3 := RowIs.cell (j := 3) hu.1 rfl; clear hu; go_simp)
  try simp only [Act.put, List.getElem_toArray, List.getElem_cons_succ, List.getElem_cons_zero, List.setIfInBounds_toArray, List.set_cons_zero, List.set_cons_succ]
  refine wpAnyH_take (i := 1) (v := ?_) rfl (by kernel_rfl) (by kernel_rfl) (by kernel_rfl) (fun _ _ _ h => h) (Or.inl ⟨by rfl, ?_⟩) hS ?_; rotate_left; focus (intro w hw; clear hw; go_simp; try with_reducible rfl)
  try simp only [Act.put, List.getElem_toArray, List.getElem_cons_succ, List.getElem_cons_zero, List.setIfInBounds_toArray, List.set_cons_zero, List.set_cons_succ]
  refine wpAnyH_take (i := 4) (v := .agg #[.int .i64 s, .int .i64 i]) rfl (by kernel_rfl) (by kernel_rfl) (by kernel_rfl) (fun _ _ _ h => h) (Or.inl ⟨by kernel_rfl, ?ld⟩) hS ?_; case ld => (intro uu hu; have z0 := RowIs.cell (j := 0) hu.2 rfl; have z1 := RowIs.cell (j := 1) hu.2 rfl; clear hu; go_simp)
  try simp only [Act.put, List.getElem_toArray, List.getElem_cons_succ, List.getElem_cons_zero, List.setIfInBounds_toArray, List.set_cons_zero, List.set_cons_succ]
  refine wpAnyH_ready (rs := [2]) (by kernel_rfl) (by simp) ?_; refine AllReadyH.cons rfl (fun K hK => ?_) AllReadyH.nil; go_simp
  refine (implCallFlight v9 _).mono ?_; rintro e u2 ⟨rfl, hb2⟩
  have RX2 := RX.new hb2
  have RG2 := RG.new hb2
  replace HB := hide (bchain HB.out hb2)
  refine hK.out _ _ ⟨RX2, RG2⟩ (fun hS => ?_)
  clear hK K hb2 RX RG
  try simp only [Act.put, List.getElem_toArray, List.getElem_cons_succ, List.getElem_cons_zero, List.setIfInBounds_toArray, List.set_cons_zero, List.set_cons_succ]
  have hfd := fun w => ct_field v9.seat v9.id v9.nm w
  refine wpAnyH_take (i := 3) (v := .agg #[.int .i64 v9.seat, .int .i64 v9.id]) rfl (by kernel_rfl) (by kernel_rfl) (by kernel_rfl) (fun _ _ _ h => h) (Or.inl ⟨by kernel_rfl, ?ld⟩) hS ?_; case ld => (intro uu hu; clear hu; go_simp)
  try simp only [Act.put, List.getElem_toArray, List.getElem_cons_succ, List.getElem_cons_zero, List.setIfInBounds_toArray, List.set_cons_zero, List.set_cons_succ]
  refine wpAnyH_take (i := 5) (v := .bool c9) rfl (by kernel_rfl) (by kernel_rfl) (by kernel_rfl) (fun _ _ _ h => h) ?hy hS ?_; case hy => exact yields_eqlB (by rfl) 99 99 _ _ rfl #[.int .i64 v9.seat, .int .i64 v9.id] #[.int .i64 s, .int .i64 i] _ rfl rfl (by kernel_rfl) HEQ.out
  try simp only [Act.put, List.getElem_toArray, List.getElem_cons_succ, List.getElem_cons_zero, List.setIfInBounds_toArray, List.set_cons_zero, List.set_cons_succ]
  refine wpAnyH_take (i := 6) (v := ?_) rfl (by kernel_rfl) (by kernel_rfl) (by kernel_rfl) (fun _ _ _ h => h) (Or.inl ⟨by rfl, ?_⟩) hS ?_; rotate_left; focus (intro w hw; clear hw; go_simp; try with_reducible rfl)
  try simp only [Act.put, List.getElem_toArray, List.getElem_cons_succ, List.getElem_cons_zero, List.setIfInBounds_toArray, List.set_cons_zero, List.set_cons_succ]
  refine wpAnyH_done (by kernel_rfl) ?_ _
  go_wp2_with fail
  go_ret
  exact ⟨rfl, HB.out⟩
set_option maxHeartbeats 4000000 in
theorem implIndexF (L : List FgD) (s i : Int) (v : Value) (g : Nat) (w : World) (hr : RdR flightS w v L) (hg : RowIs w g 99 [.int .i64 s, .int .i64 i]) (hL : L.length ≤ 1048576) :
    Calls Tryz.prog 94 #[v, .func (.func 95) #[] #[.pointer (some ⟨g, 0, none⟩)]] w fun x w' => x = .returned (.int .i64 (atGI L s i)) ∧ Below w.heap.size w w' := by
  obtain ⟨ad, cap, rfl, h1, h2⟩ := hr.form
  have HR := hide hr
  have HG := hide hg
  clear hr hg
  obtain ⟨A, hA⟩ : ∃ A, atGI L s i = A := ⟨_, rfl⟩
  rw [hA]
  have HA := hide hA
  clear hA
  go_enter Tryz.func94, Tryz.ntmps94
  go_wp2_with fail
  go_loopw [8] (fun j wr => ∃ (k : Nat), j = .int .i64 k ∧ k ≤ L.length ∧ Hid (∀ j, j < k → brF (fg L j) ≠ (s, i)) ∧ Hid (Below w.heap.size w wr)) (fun j _ => L.length - (intOf j).toNat)
  case atStart => exact ⟨0, rfl, Nat.zero_le _, fun j hj => absurd hj (Nat.not_lt_zero _), Below.refl _ _⟩
  case round =>
    obtain ⟨k, rfl, hk, HN, HB⟩ := hrel
    by_cases hlt : k < L.length
    · have hltI : (k : Int) < L.length := by omega
      obtain ⟨b, o, cs, hab, hbw, hrd, hc⟩ := (HR.out.new HB.out).at k hlt
      have HLT := hide hlt
      obtain ⟨v9, hy⟩ : ∃ v, fg L k = v := ⟨_, rfl⟩
      rw [← fg_get hlt, hy] at hrd
      subst hab
      obtain ⟨rfl, f0, f1⟩ := hrd
      have HE := hide hy
      have c0 : wr.cell? ⟨b, o + k * 4, none⟩ = some (.int .i64 v9.seat) := hc 0 _ rfl
      have c1 : wr.cell? ⟨b, o + k * 4 + 1, none⟩ = some (.int .i64 v9.id) := hc 1 _ rfl
      have c2 : wr.cell? ⟨b, o + k * 4 + 2, none⟩ = some (.string v9.nm) := hc 2 _ rfl
      have c3 : wr.cell? ⟨b, o + k * 4 + 3, none⟩ = some (.string v9.tx) := hc 3 _ rfl
      clear hc hy
      go_wp2_with fail
      refine (implIsF v9 s i g _ (HG.out.new HB.out)).mono ?_
      rintro z w5 ⟨rfl, hb5⟩
      replace HB := hide (bchain HB.out hb5)
      clear hb5 c0 c1 c2 c3
      by_cases h4 : brF v9 = (s, i)
      · rw [decide_eq_true h4]
        have HF : Hid (A = k) := by show A = k; rw [← HA.out]; unfold atGI; rw [atGI_some HLT.out (by rw [HE.out]; exact h4) HN.out]
        clear h4
        go_wp2_with fail
        go_ret
        exact ⟨by rw [HF.out]; rfl, HB.out⟩
      · rw [decide_eq_false h4]
        have HN2 : Hid (∀ j, j < k + 1 → brF (fg L j) ≠ (s, i)) := fun j hj => by
          by_cases e : j = k
          · subst e; rw [HE.out]; exact h4
          · exact HN.out j (by omega)
        clear h4
        go_wp2_with fail
        go_roundw
        case rel => exact ⟨k + 1, by go_num, by omega, HN2, HB⟩
        case measure => simp [intOf]; omega
    · have hltI : ¬ (k : Int) < L.length := by omega
      have HF : Hid (A = -1) := by
        show A = -1
        rw [← HA.out]
        unfold atGI
        rw [atGI_none (fun j hj => HN.out j (by omega))]
      go_wp2_with fail
      go_ret
      exact ⟨by rw [HF.out]; rfl, HB.out⟩
theorem implPlaceF (L : List FgD) (s i : Int) (v : Value) (w : World) (hr : RdR flightS w v L) (hL : L.length ≤ 1048576) :
    Calls Tryz.prog 56 #[v, .agg #[.int .i64 s, .int .i64 i]] w fun x w' => x = .returned (.int .i64 (atGI L s i)) ∧ Below w.heap.size w w' := by
  have HR := hide hr
  have hX : Below w.heap.size w (w.alloc (.cells #[.int .i64 s, .int .i64 i] 99)) := (Below.refl _ _).alloc (Nat.le_refl _) _
  have RG := rowIs_new w 99 [.int .i64 s, .int .i64 i]
  replace HR := hide (HR.out.new hX)
  have HB := hide hX
  clear hX hr
  go_enter Tryz.func56, Tryz.ntmps56
  go_upto_region 1 with fail
  generalize w.alloc (.cells #[.int .i64 s, .int .i64 i] 99) = W1 at *
  go_wp2_with fail
  refine (implIndexF L s i _ w.heap.size _ HR.out RG hL).mono ?_
  rintro z w1 ⟨rfl, hb1⟩
  replace HB := hide (bchain HB.out hb1)
  clear hb1
  go_wp2_with fail
  go_ret
  exact ⟨rfl, HB.out⟩
set_option maxHeartbeats 4000000 in
theorem implWentTo (d : GtD) (s i : Int) (vt vs vd vf : Value) (w : World) (hv : GtRd w d vt vs vd vf) (hL : d.flights.length ≤ 1048576) :
    Calls Tryz.prog 20 #[gtv d vt vs vd vf, .int .i64 s, .int .i64 i] w fun x w' => x = .returned (.tuple #[.string (wentV d s i).1, .bool (wentV d s i).2]) ∧ Below w.heap.size w w' := by
  dsimp only [gtv] at *
  have HV := hide hv
  obtain ⟨at_, pt, rfl, _, _⟩ := hv.te.form
  obtain ⟨as_, ps, rfl, _, _⟩ := hv.se.form
  obtain ⟨ad, pd, rfl, _, _⟩ := hv.di.form
  obtain ⟨af, pf, rfl, _, _⟩ := hv.fl.form
  clear hv
  have HRX : Hid (RowIs (w.alloc (.cells #[.int .i64 d.now, .slice at_ d.tens.length pt, .slice as_ d.seats.length ps, .slice ad d.dials.length pd, .slice af d.flights.length pf, .bool d.drained] 35)) w.heap.size 35 [.int .i64 d.now, .slice at_ d.tens.length pt, .slice as_ d.seats.length ps, .slice ad d.dials.length pd, .slice af d.flights.length pf, .bool d.drained]) := rowIs_new w 35 [.int .i64 d.now, .slice at_ d.tens.length pt, .slice as_ d.seats.length ps, .slice ad d.dials.length pd, .slice af d.flights.length pf, .bool d.drained]
  have HB : Hid (Below w.heap.size w (w.alloc (.cells #[.int .i64 d.now, .slice at_ d.tens.length pt, .slice as_ d.seats.length ps, .slice ad d.dials.length pd, .slice af d.flights.length pf, .bool d.drained] 35))) := (Below.refl _ _).alloc (Nat.le_refl _) _
  obtain ⟨A, hA⟩ : ∃ A, wentV d s i = A := ⟨_, rfl⟩
  rw [hA]
  have HA := hide hA
  clear hA
  go_enter Tryz.func20, Tryz.ntmps20
  go_upto_region 1 with fail
  generalize w.alloc (.cells #[.int .i64 d.now, .slice at_ d.tens.length pt, .slice as_ d.seats.length ps, .slice ad d.dials.length pd, .slice af d.flights.length pf, .bool d.drained] 35) = W1 at *
  have x4 := RowIs.cell (j := 4) HRX.out rfl
  go_wp2_with fail
  clear x4
  refine (implPlaceF d.flights s i _ _ (HV.out.fl.new HB.out) hL).mono ?_; rintro e w2 ⟨rfl, hb⟩
  replace HRX := hide (HRX.out.new hb)
  replace HB := hide (bchain HB.out hb)
  clear hb
  have HLT : Hid (∀ k, atG d.flights s i = some k → k < d.flights.length) := fun k h => atG_lt h
  unfold atGI
  cases ha : atG d.flights s i with
  | none =>
    have HE : Hid (A = (⟨#[]⟩, false)) := by show A = _; rw [← HA.out]; unfold wentV; rw [ha]; split <;> rfl
    clear ha
    go_wp2_with fail
    refine bodyPost_ret (v := .tuple #[.string ⟨#[]⟩, .bool false]) (by simp [results, Tryz.results20, go_sem, *]) rfl ?_
    exact ⟨by rw [HE.out], HB.out⟩
  | some k =>
    have hk := HLT.out k ha
    have HK := hide hk
    have hkI : ¬ (k : Int) < 0 := by omega
    have HAT := hide ha
    clear ha hk
    have x0 := RowIs.cell (j := 0) HRX.out rfl
    have x1 := RowIs.cell (j := 1) HRX.out rfl
    have x2 := RowIs.cell (j := 2) HRX.out rfl
    have x3 := RowIs.cell (j := 3) HRX.out rfl
    have x4 := RowIs.cell (j := 4) HRX.out rfl
    have x5 := RowIs.cell (j := 5) HRX.out rfl
    go_wp2_with fail
    clear x0 x1 x2 x3 x4 x5
    refine (implGRight d _ _ _ _ _ ⟨HV.out.te.new HB.out, HV.out.se.new HB.out, HV.out.di.new HB.out, HV.out.fl.new HB.out⟩).mono ?_; rintro e w3 ⟨rfl, hb⟩
    replace HRX := hide (HRX.out.new hb)
    replace HB := hide (bchain HB.out hb)
    clear hb
    cases h0 : okGt d
    · have HE : Hid (A = (⟨#[]⟩, false)) := by show A = _; rw [← HA.out]; unfold wentV; rw [h0]; rfl
      clear h0
      go_wp2_with fail
      refine bodyPost_ret (v := .tuple #[.string ⟨#[]⟩, .bool false]) (by simp [results, Tryz.results20, go_sem, *]) rfl ?_
      exact ⟨by rw [HE.out], HB.out⟩
    · have htx := ((gt_true.1 h0).flights k HK.out).1.2
      have HE : Hid (A = ((fg d.flights k).tx, true)) := by show A = _; rw [← HA.out]; unfold wentV; rw [h0, HAT.out]; rfl
      have hlt := HK.out
      have hltI : (k : Int) < d.flights.length := by omega
      obtain ⟨b, o, cs, hab, hbw, hrd, hc⟩ := (HV.out.fl.new HB.out).at k hlt
      obtain ⟨v9, hy⟩ : ∃ v, fg d.flights k = v := ⟨_, rfl⟩
      rw [← fg_get hlt, hy] at hrd
      rw [hy] at htx HE
      subst hab
      obtain ⟨rfl, f0, f1⟩ := hrd
      have c3 : w3.cell? ⟨b, o + k * 4 + 3, none⟩ = some (.string v9.tx) := hc 3 _ rfl
      have x4 := RowIs.cell (j := 4) HRX.out rfl
      clear hc hy h0
      go_wp2_with fail
      refine (clone v9.tx _ (by omega)).mono ?_; rintro e w4 ⟨rfl, hb⟩
      replace HB := hide (bchain HB.out hb)
      clear hb c3 x4
      go_wp2_with fail
      refine bodyPost_ret (v := .tuple #[.string v9.tx, .bool true]) (by simp [results, Tryz.results20, go_sem, *]) rfl ?_
      exact ⟨by rw [HE.out], HB.out⟩
end Go.Proofs.YtkhclhnejnpkeaaGreat
