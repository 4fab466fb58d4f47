/- Chapter 11's model: who is served. -/
import Derived.Test.YteojibdnphaooaaTurnRn
import Derived.Test.YteojibdnphaooaaMinMax
import Derived.Test.YteojibdnphaooaaAppRows
import Derived.Test.YteojibdnphaooaaRowNew
import Derived.Deep.LoopGhost
import Derived.Deep.DeepMust
import Derived.Deep.DeepCutAuto


namespace Go.Proofs.Yteojibdnphaooaa
open Go.RowKit
set_option maxRecDepth 100000
set_option linter.unusedSimpArgs false
set_option linter.unusedVariables false
theorem srv_step {f : Nat} {r y : RoundD} (h : srvOne r = (none, y)) : srv (f + 1) r = srv f y := by simp only [srv, h]
theorem srv_end {f : Nat} {r y : RoundD} {a b : Int} (h : srvOne r = (some (a, b), y)) : srv (f + 1) r = (y, a, b) := by simp only [srv, h]
theorem one_empty {T : Nat} {gv : Bool} {L : List LineD} (hT : T < L.length) (hs : L[T].sz = []) : srvOne ⟨(T : Int), gv, L⟩ = (none, ⟨((T : Int) + 1) % L.length, false, L.set T ⟨L[T].wt, 0, L[T].sz⟩⟩) := by
  have hl : lnAt ⟨(T : Int), gv, L⟩ = L[T] := by simp [lnAt, hT]
  unfold srvOne
  rw [hl, hs]
  simp [passD, putLn]
theorem one_full {T : Nat} {gv : Bool} {L : List LineD} {n : Int} {rest : List Int} {l : Int} (hT : T < L.length) (hs : L[T].sz = n :: rest) (hl : topUp ⟨(T : Int), gv, L⟩ L[T] = l) (hn : ¬ n ≤ l) : srvOne ⟨(T : Int), gv, L⟩ = (none, ⟨((T : Int) + 1) % L.length, false, L.set T ⟨L[T].wt, l, L[T].sz⟩⟩) := by
  have e : lnAt ⟨(T : Int), gv, L⟩ = L[T] := by simp [lnAt, hT]
  unfold srvOne
  rw [e, hs]
  simp only [hl]
  rw [if_neg hn]
  simp [passD, putLn]
theorem one_serve {T : Nat} {gv : Bool} {L : List LineD} {n : Int} {rest : List Int} {l : Int} (hT : T < L.length) (hs : L[T].sz = n :: rest) (hl : topUp ⟨(T : Int), gv, L⟩ L[T] = l) (hn : n ≤ l) : srvOne ⟨(T : Int), gv, L⟩ = (some ((T : Int), n), ⟨(T : Int), true, L.set T ⟨L[T].wt, l - n, rest⟩⟩) := by
  have e : lnAt ⟨(T : Int), gv, L⟩ = L[T] := by simp [lnAt, hT]
  unfold srvOne
  rw [e, hs]
  simp only [hl]
  rw [if_pos hn]
  simp
set_option maxRecDepth 100000 in
set_option maxHeartbeats 4000000 in
theorem serve1 (d : RoundD) (g lo gl vp : Nat) (w : World) (H : RnIs w g lo gl vp d) (hok : okRn d = true) (hlo : lo ≤ w.heap.size) :
    Calls Try.prog 36 #[.pointer (some ⟨g, 0, none⟩)] w fun x w' => x = .returned (.tuple #[.int .i64 (serveRaw d).2.1, .int .i64 (serveRaw d).2.2]) ∧ RnIs w' g lo gl vp (serveRaw d).1 ∧ Kept3 lo g w w' := by
  have HH := hide H
  have x0 := H.row.cell (j := 0) rfl
  have x1 := H.row.cell (j := 1) rfl
  have x2 := H.row.cell (j := 2) rfl
  have hlg := H.row.lt
  clear H
  have hwait := waiting1 d (.slice (some ⟨gl, 0, none⟩) d.ls.length vp) w HH.out.rd hok
  cases hw : decide (waitLs d.ls = 0)
  rotate_left
  · have hw0 := of_decide_eq_true hw
    have hv : serveRaw d = (d, -1, 0) := by unfold serveRaw; rw [if_pos hw0]
    rw [hv]
    rw [hw0] at hwait
    clear hw hw0 hv
    go_enter Try.func36, Try.ntmps36
    go_wp2_with fail
    refine hwait.mono ?_; rintro z w1 ⟨rfl, hb1⟩
    go_wp2_with fail
    go_ret2
    exact ⟨rfl, HH.out.new hb1, Kept3.of hb1⟩
  have hw0 := of_decide_eq_false hw
  obtain ⟨A, hA⟩ : ∃ A, serveRaw d = A := ⟨_, rfl⟩
  have HA : Hid (srv (d.ls.length + 1) d = A) := by show _ = A; rw [← hA]; unfold serveRaw; rw [if_neg hw0]
  have HG : Hid (Good (d.ls.length + 1) d) := good_start hok hw0
  have hwz : (waitLs d.ls == 0) = false := by simpa using hw0
  obtain ⟨n1, n6⟩ := (okRn_iff.1 hok).1
  rw [hA]
  have HOK := hide hok
  generalize waitLs d.ls = q at *
  clear hA hw hw0 hok
  go_enter Try.func36, Try.ntmps36
  go_wp2_with fail
  refine hwait.mono ?_; rintro z w1 ⟨rfl, hb1⟩
  clear hwait
  replace HH := hide (HH.out.new hb1)
  have HK : Hid (Kept3 lo g w w1) := Kept3.of hb1
  clear hb1 x0 x1 x2 hlg
  go_wp2_with fail
  go_loopg [4] (d.ls.length + 1) (fun f s wr => ∃ (rd : RoundD), Hid (rd.ls.length = d.ls.length) ∧ Hid (okRn rd = true) ∧ Hid (Good f rd) ∧ Hid (srv f rd = A) ∧ Hid (RnIs wr g lo gl vp rd) ∧ Hid (Kept3 lo g w wr))
  case atStart => exact ⟨d, rfl, HOK, HG, HA, HH, HK⟩
  case round =>
    clear HOK HG HA HH HK
    obtain ⟨rd, HL, HOK, HG, HA, HH, HK⟩ := hrel
    cases gk with
    | zero => obtain ⟨dd, hdd, _⟩ := HG.out; omega
    | succ f =>
      obtain ⟨T, hT, hTl, hTn⟩ := turn_nat HOK.out
      obtain ⟨tn, gv, L⟩ := rd
      dsimp only at hT hTl hTn HL
      subst hT
      have hl6 : L.length ≤ 6 := by have := HL.out; omega
      have hl1 : 1 ≤ L.length := by omega
      have r0 := HH.out.row.cell (j := 0) rfl
      have r2 := HH.out.row.cell (j := 2) rfl
      have hlr := HH.out.row.lt
      dsimp only at r0 r2
      clear hTn
      go_upto_region 3 with fail
      go_quiet (fail)
      obtain ⟨U, hU⟩ : ∃ U, wr.drewN nq = U := ⟨_, rfl⟩
      rw [hU]
      replace HH : Hid (RnIs U g lo gl vp ⟨(T : Int), gv, L⟩) := by show RnIs _ _ _ _ _ _; rw [← hU]; exact HH.out.new (bo_drewN nq (Below.refl _ _))
      replace HK : Hid (Kept3 lo g w U) := by show Kept3 _ _ _ _; rw [← hU]; exact HK.out.trans (Kept3.of (bo_drewN nq (Below.refl _ _)))
      clear hU r0 r2 hlr
      have hxk := okLn_iff.1 ((okRn_iff.1 HOK.out).2.2 _ (List.getElem_mem hTl))
      obtain ⟨hgl, hlg, hgg, hfz, c0, c1, az, pz, bz, c2, p1, p2, hOz, hbz, hWt, hLf, hSz⟩ := HH.out.line T hTl
      have r0 := HH.out.row.cell (j := 0) rfl
      have r1 := HH.out.row.cell (j := 1) rfl
      have r2 := HH.out.row.cell (j := 2) rfl
      have r9 := fun q => HH.out.row.frozen q
      have hlr := HH.out.row.lt
      dsimp only at r0 r1 r2 c0 c1 c2 p1 hOz hWt hLf hSz hxk
      have HE := hide (one_empty (gv := gv) hTl)
      have HFU := hide (fun n rest l => one_full (gv := gv) (n := n) (rest := rest) (l := l) hTl)
      have HSE := hide (fun n rest l => one_serve (gv := gv) (n := n) (rest := rest) (l := l) hTl)
      obtain ⟨x, hx⟩ : ∃ x, L[T] = x := ⟨_, rfl⟩
      rw [hx] at c0 c1 c2 p1 hOz hWt hLf hSz hxk HE HFU HSE
      obtain ⟨wt, lf, sz⟩ := x
      dsimp only at c0 c1 c2 p1 hOz hWt hLf hSz hxk HE HFU HSE
      obtain ⟨⟨b1, b2⟩, ⟨b3, b4⟩, b5, b6⟩ := hxk
      have HWt := hide hWt; have HLf := hide hLf; have HSz := hide hSz; have HOz := hide hOz; have HBz := hide hbz; have HB6 := hide b6
      have HX := hide hx
      clear hWt hLf hSz hOz hbz hx b6
      cases sz with
      | nil =>
        have HHE := hide (HE.out rfl)
        go_upto_region 6 with fail
        have HH2 := hide (HLf.out 0)
        have HK2 := hide (HK.out.set ⟨gl, T * 3 + 1, none⟩ (.int .i64 0) (.inl hlg))
        generalize U.setCell ⟨gl, T * 3 + 1, none⟩ (.int .i64 0) = U2 at *
        clear r0 r1 r2 r9 hlr c0 c1 c2 hfz hgl HH HK
        have hps := pass1 (T : Int) gv (some ⟨gl, 0, none⟩) L.length vp g U2 (by have := HH2.out.row; simpa using this) (by omega) (by omega) hl1 hl6
        go_wp2_with fail
        refine hps.mono ?_
        rintro z w5 ⟨rfl, hrow, hgrw, hsz⟩
        clear hps
        have HOK2 : Hid (okRn ⟨((T : Int) + 1) % L.length, false, L.set T ⟨wt, 0, []⟩⟩ = true) := (one_none HOK.out HHE.out).choose_spec.2.2.choose_spec.2.1
        have HG2 : Hid (Good f ⟨((T : Int) + 1) % L.length, false, L.set T ⟨wt, 0, []⟩⟩) := good_step HOK.out HG.out HHE.out
        have HA2 : Hid (srv f ⟨((T : Int) + 1) % L.length, false, L.set T ⟨wt, 0, []⟩⟩ = A) := by show _ = A; rw [← HA.out, srv_step HHE.out]
        have HH3 : Hid (RnIs w5 g lo gl vp ⟨((T : Int) + 1) % L.length, false, L.set T ⟨wt, 0, []⟩⟩) := HH2.out.box hgrw (by simpa using hrow)
        have HK3 : Hid (Kept3 lo g w w5) := HK2.out.trans (Kept3.box hgrw)
        have HL3 : Hid ((L.set T ⟨wt, 0, []⟩).length = d.ls.length) := by show _ = _; rw [List.length_set]; exact HL.out
        clear HHE hrow hgrw hsz
        go_wp2_with fail
        go_roundg f
        case measure => omega
        case rel => exact ⟨_, HL3, HOK2, HG2, HA2, HH3, HK3⟩
      | cons n rest =>
        have hlist : (n :: rest).length = rest.length + 1 := rfl
        go_upto_if 35 with fail
        go_cut [34, 35] (fun s34 s35 wc => ∃ l : Int, Hid (topUp ⟨(T : Int), gv, L⟩ ⟨wt, lf, n :: rest⟩ = l) ∧ 0 ≤ l ∧ l ≤ 2000 ∧ Hid (RnIs wc g lo gl vp ⟨(T : Int), true, L.set T ⟨wt, l, n :: rest⟩⟩) ∧ Hid (Kept3 lo g w wc))
        case first =>
          rename_i Q0 J1 K1 a4 a3 hz K2 a2 J2 K3 a1 a0
          clear a2 a3 a4
          cases gv with
          | true =>
            have HS : Hid (L.set T ⟨wt, lf, n :: rest⟩ = L) := by show _ = L; rw [← HX.out]; exact List.set_getElem_self hTl
            have HTU : Hid (topUp ⟨(T : Int), true, L⟩ ⟨wt, lf, n :: rest⟩ = lf) := by show _ = lf; unfold topUp; rw [if_pos rfl]
            go_wp2_with fail
            go_meet
            case rel => exact ⟨lf, HTU, b3, b4, by show RnIs _ _ _ _ _ _; rw [HS.out]; exact HH.out, HK⟩
          | false =>
            have HTU : Hid (topUp ⟨(T : Int), false, L⟩ ⟨wt, lf, n :: rest⟩ = if 2000 < lf + 100 * wt then 2000 else lf + 100 * wt) := by show _ = _; unfold topUp; rw [if_neg (by simp)]
            have hmn := fun w => specMin 2000 (lf + 100 * wt) w
            obtain ⟨l, hl⟩ : ∃ l, (if 2000 < lf + 100 * wt then 2000 else lf + 100 * wt) = l := ⟨_, rfl⟩
            have hl0 : 0 ≤ l := by rw [← hl]; split <;> omega
            have hl2 : l ≤ 2000 := by rw [← hl]; split <;> omega
            rw [hl] at hmn HTU
            clear hl
            have wm : IntKind.i64.wrap (100 * wt) = 100 * wt := by rw [IntKind.wrap_i64]; omega
            have wa : IntKind.i64.wrap (lf + 100 * wt) = lf + 100 * wt := by rw [IntKind.wrap_i64]; omega
            go_wp2_with fail
            refine wp_region_any (by kernel_rfl) ?_; change wpAny _ _ _ _ _ _ _ (World.drew _)
            have hbd : Below U.heap.size U (World.drew U) := bo_drewN 1 (Below.refl _ _)
            have c0' : (World.drew U).cell? ⟨gl, T * 3, none⟩ = some (.int .i64 wt) := c0
            have c1' : (World.drew U).cell? ⟨gl, T * 3 + 1, none⟩ = some (.int .i64 lf) := c1
            have hfz' : ∀ j, (World.drew U).frozen? ⟨gl, j, none⟩ = false := hfz
            have hgl' : gl < (World.drew U).heap.size := hgl
            obtain ⟨_, _, _, _, _, _, _, _, _, _, _, _, _, _, _, hLf2, _⟩ := (HH.out.new hbd).line T hTl
            have HLf2 : Hid (RnIs ((World.drew U).setCell ⟨gl, T * 3 + 1, none⟩ (.int .i64 l)) g lo gl vp ⟨(T : Int), false, L.set T ⟨wt, l, n :: rest⟩⟩) := by have := hLf2 l; simp only [HX.out] at this; exact this
            have HK2 : Hid (Kept3 lo g w ((World.drew U).setCell ⟨gl, T * 3 + 1, none⟩ (.int .i64 l))) := (HK.out.trans (Kept3.of hbd)).set _ _ (.inl hlg)
            clear hLf2 hbd r0 r1 r2 r9 hlr c0 c1 c2 hfz hgl
            generalize World.drew U = U1 at *
            refine wpAny_take (i := 0) (v := ?_) rfl (by kernel_rfl) (by kernel_rfl) (by kernel_rfl) (fun _ _ _ h => h) (Or.inl ⟨by rfl, ?_⟩) ?_; rotate_left; focus (intro w; go_simp; try with_reducible rfl)
            refine wpAny_take (i := 1) (v := ?_) rfl (by kernel_rfl) (by kernel_rfl) (by kernel_rfl) (fun _ _ _ h => h) (Or.inl ⟨by rfl, ?_⟩) ?_; rotate_left; focus (intro w; go_simp; try with_reducible rfl)
            refine wpAny_take (i := 2) (v := ?_) rfl (by kernel_rfl) (by kernel_rfl) (by kernel_rfl) (fun _ _ _ h => h) (Or.inl ⟨by rfl, ?_⟩) ?_; rotate_left; focus (intro w; go_simp; try with_reducible rfl)
            refine wpAny_take (i := 3) (v := ?_) rfl (by kernel_rfl) (by kernel_rfl) (by kernel_rfl) (fun _ _ _ h => h) (Or.inl ⟨by rfl, ?_⟩) ?_; rotate_left; focus (intro w; go_simp; try with_reducible rfl)
            refine wpAny_take (i := 5) (v := ?_) rfl (by kernel_rfl) (by kernel_rfl) (by kernel_rfl) (fun _ _ _ h => h) (Or.inl ⟨by rfl, ?_⟩) ?_; rotate_left; focus (intro w; go_simp; try with_reducible rfl)
            refine wpAny_take (i := 6) (v := ?_) rfl (by kernel_rfl) (by kernel_rfl) (by kernel_rfl) (fun _ _ _ h => h) (Or.inl ⟨by rfl, ?_⟩) ?_; rotate_left; focus (intro w; go_simp; try with_reducible rfl)
            refine wpAny_take (i := 7) (v := ?_) rfl (by kernel_rfl) (by kernel_rfl) (by kernel_rfl) (fun _ _ _ h => h) (Or.inl ⟨by rfl, ?_⟩) ?_; rotate_left; focus (intro w; go_simp; try with_reducible rfl)
            refine wpAny_ready (rs := [4, 8]) (by kernel_rfl) (by simp) ?_; refine AllReady.cons rfl (fun K hK => ?_) (AllReady.cons rfl (fun K hK => ?_) AllReady.nil)
            · go_simp; refine hK _ _ ?_; clear hK K
              refine wpAny_ready (rs := [8]) (by kernel_rfl) (by simp) ?_; refine AllReady.cons rfl (fun K hK => ?_) AllReady.nil
              go_simp; refine hK _ _ ?_; clear hK K
              refine wpAny_take (i := 9) (v := ?_) rfl (by kernel_rfl) (by kernel_rfl) (by kernel_rfl) (fun _ _ _ h => h) (Or.inl ⟨by rfl, ?_⟩) ?_; rotate_left; focus (intro w; go_simp; try with_reducible rfl)
              refine wpAny_take (i := 10) (v := ?_) rfl (by kernel_rfl) (by kernel_rfl) (by kernel_rfl) (fun _ _ _ h => h) (Or.inl ⟨by rfl, ?_⟩) ?_; rotate_left; focus (intro w; go_simp; try with_reducible rfl)
              refine wpAny_ready (rs := [11]) (by kernel_rfl) (by simp) ?_; refine AllReady.cons rfl (fun K hK => ?_) AllReady.nil
              go_simp; refine (hmn _).mono ?_; rintro e w3 ⟨rfl, hsame⟩; obtain rfl := hsame.symm; clear hsame; refine hK _ _ ?_; clear hK K
              refine wpAny_take (i := 12) (v := ?_) rfl (by kernel_rfl) (by kernel_rfl) (by kernel_rfl) (fun _ _ _ h => h) (Or.inl ⟨by rfl, ?_⟩) ?_; rotate_left; focus (intro w; go_simp; try with_reducible rfl)
              refine wpAny_take (i := 13) (v := ?_) rfl (by kernel_rfl) (by kernel_rfl) (by kernel_rfl) (fun _ _ _ h => h) (Or.inl ⟨by rfl, ?_⟩) ?_; rotate_left; focus (intro w; go_simp; try with_reducible rfl)
              refine wpAny_ready (rs := [14]) (by kernel_rfl) (by simp) ?_; refine AllReady.cons rfl (fun K hK => ?_) AllReady.nil
              go_simp; refine hK _ _ ?_; clear hK K
              refine wpAny_done (by kernel_rfl) ?_ _
              have HG2 : Hid (RnIs ((U1.setCell ⟨gl, T * 3 + 1, none⟩ (.int .i64 l)).setCell ⟨g, 1, none⟩ (.bool true)) g lo gl vp ⟨(T : Int), true, L.set T ⟨wt, l, n :: rest⟩⟩) := HLf2.out.given true
              have HK3 : Hid (Kept3 lo g w ((U1.setCell ⟨gl, T * 3 + 1, none⟩ (.int .i64 l)).setCell ⟨g, 1, none⟩ (.bool true))) := HK2.out.set _ _ (.inr (Nat.le_refl _))
              have r1 := HLf2.out.row.cell (j := 1) rfl
              have r9 := HLf2.out.row.frozen 1
              have hlr := HLf2.out.row.lt
              generalize U1.setCell ⟨gl, T * 3 + 1, none⟩ (.int .i64 l) = U2 at *
              go_wp2_with fail
              go_meet
              case rel => exact ⟨l, HTU, hl0, hl2, HG2, HK3⟩
            · go_simp; refine hK _ _ ?_; clear hK K
              refine wpAny_take (i := 9) (v := ?_) rfl (by kernel_rfl) (by kernel_rfl) (by kernel_rfl) (fun _ _ _ h => h) (Or.inl ⟨by rfl, ?_⟩) ?_; rotate_left; focus (intro w; go_simp; try with_reducible rfl)
              refine wpAny_ready (rs := [4]) (by kernel_rfl) (by simp) ?_; refine AllReady.cons rfl (fun K hK => ?_) AllReady.nil
              go_simp; refine hK _ _ ?_; clear hK K
              refine wpAny_take (i := 10) (v := ?_) rfl (by kernel_rfl) (by kernel_rfl) (by kernel_rfl) (fun _ _ _ h => h) (Or.inl ⟨by rfl, ?_⟩) ?_; rotate_left; focus (intro w; go_simp; try with_reducible rfl)
              refine wpAny_ready (rs := [11]) (by kernel_rfl) (by simp) ?_; refine AllReady.cons rfl (fun K hK => ?_) AllReady.nil
              go_simp; refine (hmn _).mono ?_; rintro e w3 ⟨rfl, hsame⟩; obtain rfl := hsame.symm; clear hsame; refine hK _ _ ?_; clear hK K
              refine wpAny_take (i := 12) (v := ?_) rfl (by kernel_rfl) (by kernel_rfl) (by kernel_rfl) (fun _ _ _ h => h) (Or.inl ⟨by rfl, ?_⟩) ?_; rotate_left; focus (intro w; go_simp; try with_reducible rfl)
              refine wpAny_take (i := 13) (v := ?_) rfl (by kernel_rfl) (by kernel_rfl) (by kernel_rfl) (fun _ _ _ h => h) (Or.inl ⟨by rfl, ?_⟩) ?_; rotate_left; focus (intro w; go_simp; try with_reducible rfl)
              refine wpAny_ready (rs := [14]) (by kernel_rfl) (by simp) ?_; refine AllReady.cons rfl (fun K hK => ?_) AllReady.nil
              go_simp; refine hK _ _ ?_; clear hK K
              refine wpAny_done (by kernel_rfl) ?_ _
              have HG2 : Hid (RnIs ((U1.setCell ⟨gl, T * 3 + 1, none⟩ (.int .i64 l)).setCell ⟨g, 1, none⟩ (.bool true)) g lo gl vp ⟨(T : Int), true, L.set T ⟨wt, l, n :: rest⟩⟩) := HLf2.out.given true
              have HK3 : Hid (Kept3 lo g w ((U1.setCell ⟨gl, T * 3 + 1, none⟩ (.int .i64 l)).setCell ⟨g, 1, none⟩ (.bool true))) := HK2.out.set _ _ (.inr (Nat.le_refl _))
              have r1 := HLf2.out.row.cell (j := 1) rfl
              have r9 := HLf2.out.row.frozen 1
              have hlr := HLf2.out.row.lt
              generalize U1.setCell ⟨gl, T * 3 + 1, none⟩ (.int .i64 l) = U2 at *
              go_wp2_with fail
              go_meet
              case rel => exact ⟨l, HTU, hl0, hl2, HG2, HK3⟩
        case rest =>
          clear HH HK r0 r1 r2 r9 hlr c0 c1 c2 hfz hgl HWt HLf HSz HOz HBz p1 p2 hlg hgg
          obtain ⟨l, HTU, l0, l2, HH, HK⟩ := hcut
          have hTl2 : T < (L.set T ⟨wt, l, n :: rest⟩).length := by simpa using hTl
          obtain ⟨hgl, hlg, hgg, hfz, c0, c1, az, pz, bz, c2, p1, p2, hOz, hbz, hWt, hLf, hSz⟩ := HH.out.line T hTl2
          have r0 := HH.out.row.cell (j := 0) rfl
          have r1 := HH.out.row.cell (j := 1) rfl
          have r2 := HH.out.row.cell (j := 2) rfl
          have r9 := fun q => HH.out.row.frozen q
          have hlr := HH.out.row.lt
          simp only [List.getElem_set_self, List.set_set, List.length_set] at r0 r1 r2 c0 c1 c2 p1 hOz hWt hLf hSz
          obtain ⟨hown, hbz2⟩ := owr_ints hOz
          obtain ⟨gz, gcap, hsl, hg0, _, hgz, _, _, hc, hf⟩ := owns_open hown (by simp)
          have z0 := hc 0 (.int .i64 n) rfl
          simp only [Value.slice.injEq] at hsl
          obtain ⟨rfl, -, -⟩ := hsl
          have hn1 := HB6.out n (by simp)
          have hOwn := hide hown
          have HLf := hide hLf; have HSz := hide hSz; have HBz := hide hbz; have HOz := hide hOz; have HF := hide hf; have HBZ := hide hbz2
          clear hc hf hWt hLf hSz hbz hOz hown hbz2
          by_cases hle : n ≤ l
          · have HHE := hide (HSE.out n rest l rfl HTU.out hle)
            have HH2 := hide (HLf.out (l - n))
            have HK2 := hide (HK.out.set ⟨gl, T * 3 + 1, none⟩ (.int .i64 (l - n)) (.inl hlg))
            have wl : IntKind.i64.wrap (l - n) = l - n := by rw [IntKind.wrap_i64]; omega
            have HKW : Hid (Kept3 lo g w wc) := HK
            clear HSE HFU HE
            go_upto_region 13 with fail
            generalize wc.setCell ⟨gl, T * 3 + 1, none⟩ (.int .i64 (l - n)) = W1 at *
            clear HH HK r0 r1 r2 r9 hlr c0 c1 c2 hfz hgl HSz HLf HBz HOz HF HBZ hOwn z0 p1 p2 hlg hgg hg0 hgz
            have hTl3 : T < (L.set T ⟨wt, l - n, n :: rest⟩).length := by simpa using hTl
            obtain ⟨hgl, hlg, hgg, hfz, c0, c1, az, pz, bz, c2, p1, p2, hOz, hbz, hWt, hLf, hSz⟩ := HH2.out.line T hTl3
            have r0 := HH2.out.row.cell (j := 0) rfl
            have hlr := HH2.out.row.lt
            simp only [List.getElem_set_self, List.set_set, List.length_set] at r0 c0 c1 c2 p1 hOz hWt hLf hSz
            obtain ⟨hown, hbz2⟩ := owr_ints hOz
            obtain ⟨gz, gcap, hsl, hg0, _, hgz, _, _, hc, hf⟩ := owns_open hown (by simp)
            simp only [Value.slice.injEq] at hsl
            obtain ⟨rfl, -, -⟩ := hsl
            rw [hlist] at c2 p1
            have hr30 : rest.length ≤ 30 := by rw [hlist] at b5; omega
            obtain ⟨oa, hoa⟩ : ∃ oa : Nat, (if pz = 1 then 0 else 1) = oa := ⟨_, rfl⟩
            have hcut13 : ∀ w : World, (Instr.slice 33 (.slice (some ⟨gz, 0, none⟩) (rest.length + 1) pz) (some (.int .i64 1)) none none).run Try.prog w = .ok (.slice (some ⟨gz, oa, none⟩) rest.length (pz - 1)) w := fun w => by
              rw [run_slice_l (P := Try.prog) w 33 (some ⟨gz, 0, none⟩) (rest.length + 1) pz Try.underlying33 .i64 1 (by omega) (by omega)]
              have hse : (sizeOf (Try.prog.elem 33)).run Try.prog w = .ok 1 w := rfl
              rw [hse]
              simp only [Result.andThen, sliced]
              rw [← hoa]
              split
              · rename_i e; simp at e; subst e; simp
              · rename_i e; simp at e; rw [if_neg e]; simp [Addr.add]
            have HC : Hid (Reads W1 (.slice (some ⟨gz, oa, none⟩) rest.length (pz - 1)) rest.length 1 (iv rest)) := by
              refine ⟨by simp [iv], some ⟨gz, oa, none⟩, pz - 1, rfl, by omega, by unfold maxLen; omega, fun h0 => ⟨gz, oa, rfl, hgz, fun j u hu => ?_⟩⟩
              have e1 : oa = 1 := by rw [← hoa, if_neg (by omega)]
              rw [e1, Nat.add_comm]
              exact hc (j + 1) u (by simpa [iv] using hu)
            have HSz := hide hSz; have HBz := hide hbz
            clear hc hf hWt hLf hSz hbz hOz hown hbz2 c0 c1 hoa hlist b5
            have hX : Below W1.heap.size W1 (W1.alloc (.cells #[] 2)) := (Below.refl _ _).alloc (Nat.le_refl _) _
            have hoX : (W1.alloc (.cells #[] 2)).ownsRow W1.heap.size 2 1 (.slice (some ⟨W1.heap.size, 0, none⟩) 0 0) 0 [] := owns_lit W1 2 1 0 #[] rfl (by omega)
            have hrX := HC.out.new hX
            go_wp2_with (at_builtin; go_must (refine wpList_app _ (by rfl) _ _ 33 (by rfl) 2 (.int .i64 0) 1 8 Try.underlying33 (by kernel_rfl) rfl (by decide) W1.heap.size _ 0 [] (by rfl) hoX _ rest.length (iv rest) (by rfl) hrX (iv_one _) (by omega) (by decide) hX.size ?_))
            intro ad7 cap7 w7 hown7 hg7 hat7
            try simp only [Nat.zero_add, List.nil_append] at hown7 hat7
            have hb7 : Below W1.heap.size W1 w7 := hX.grown hg7 hX.size (fun k hk => by have := (hoX.lt k hk).1; omega)
            have hO7 : OwR intS w7 (.slice ad7 rest.length cap7) rest (Value.slice ad7 rest.length cap7).ownBlock.toList := ints_owr (owns_base hown7 (fun _ _ => Nat.zero_le _))
            have HH7 := hide (HSz.out w7 (.slice ad7 rest.length cap7) rest _ (TurnB.new hb7) hO7 (opt_nodup _) (fun y hy => .inr (by
              cases hq : (Value.slice ad7 rest.length cap7).ownBlock with
              | none => rw [hq] at hy; cases hy
              | some z => rw [hq] at hy; simp at hy; subst hy; exact (hown7.lt y hq).1)))
            have HK7 : Hid (Kept3 lo g w (w7.setCell ⟨gl, T * 3 + 2, none⟩ (.slice ad7 rest.length cap7))) := (HK2.out.trans (Kept3.of hb7)).set _ _ (.inl hlg)
            have c2' := (hb7.cell (p := ⟨gl, T * 3 + 2, none⟩) hgl).trans c2
            have f2' := (hb7.frozen (p := ⟨gl, T * 3 + 2, none⟩) hgl).trans (hfz _)
            have hgl7 : gl < w7.heap.size := Nat.lt_of_lt_of_le hgl hb7.size
            have r0' := (hb7.cell (p := ⟨g, 0, none⟩) hlr).trans r0
            have hlr7 : g < w7.heap.size := Nat.lt_of_lt_of_le hlr hb7.size
            have HAE : Hid (A = (⟨(T : Int), true, L.set T ⟨wt, l - n, rest⟩⟩, (T : Int), n)) := by show A = _; rw [← HA.out, srv_end HHE.out]
            clear hb7 hO7 hown7 hg7 hat7 hX hoX hrX r0 c2 hfz hcut13 HC
            try rw [Nat.zero_add]
            go_wp2_with fail
            go_ret2
            rw [HAE.out]
            exact ⟨rfl, HH7.out, HK7.out⟩
          · have HHE := hide (HFU.out n rest l rfl HTU.out hle)
            have hps := pass1 (T : Int) true (some ⟨gl, 0, none⟩) L.length vp g wc (by have := HH.out.row; simpa using this) (by omega) (by omega) hl1 hl6
            clear HSE HFU HE
            go_wp2_with fail
            refine hps.mono ?_
            rintro z w5 ⟨rfl, hrow, hgrw, hsz⟩
            clear hps
            have HOK2 : Hid (okRn ⟨((T : Int) + 1) % L.length, false, L.set T ⟨wt, l, n :: rest⟩⟩ = true) := (one_none HOK.out HHE.out).choose_spec.2.2.choose_spec.2.1
            have HG2 : Hid (Good f ⟨((T : Int) + 1) % L.length, false, L.set T ⟨wt, l, n :: rest⟩⟩) := good_step HOK.out HG.out HHE.out
            have HA2 : Hid (srv f ⟨((T : Int) + 1) % L.length, false, L.set T ⟨wt, l, n :: rest⟩⟩ = A) := by show _ = A; rw [← HA.out, srv_step HHE.out]
            have HH3 : Hid (RnIs w5 g lo gl vp ⟨((T : Int) + 1) % L.length, false, L.set T ⟨wt, l, n :: rest⟩⟩) := HH.out.box hgrw (by simpa using hrow)
            have HK3 : Hid (Kept3 lo g w w5) := HK.out.trans (Kept3.box hgrw)
            have HL3 : Hid ((L.set T ⟨wt, l, n :: rest⟩).length = d.ls.length) := by show _ = _; rw [List.length_set]; exact HL.out
            clear HHE hrow hgrw hsz
            go_wp2_with fail
            go_roundg f
            case measure => omega
            case rel => exact ⟨_, HL3, HOK2, HG2, HA2, HH3, HK3⟩
end Go.Proofs.Yteojibdnphaooaa
