/- The law FnNoTwice returns true at every argument and leaves it as it was. No condition. -/
import Derived.Test.YtgodopiejiajjaaRegSpec3
import Derived.Test.YtgodopiejiajjaaRegImpl
import Derived.Test.YtgodopiejiajjaaRegDraw3
import Derived.Test.YtgodopiejiajjaaLikeReg
import Derived.Test.YtgodopiejiajjaaRegBox
import Derived.Test.YtgodopiejiajjaaPickOne
import Derived.Deep.DeepCutAuto
import Derived.Deep.RegionHeld3
import Derived.WalkKit
import Derived.ProofKit
import Derived.OpenShut
import Derived.ShutString
import Derived.ChangeOld
import Derived.Below
import Derived.Lib.SmallJoins

namespace Go.Proofs.Ytgodopiejiajjaa
open Go.RowKit
set_option maxRecDepth 100000
set_option linter.unusedSimpArgs false
set_option linter.unusedVariables false
namespace lawNoTwice
set_option maxHeartbeats 8000000 in
set_option maxRecDepth 100000 in
theorem walk (a : Option Addr) (len cap : Nat) (w : World) (hl : len ≤ maxLen) (hcode : CodeAt w a len w.heap.size) :
    Calls Try.prog 3 #[.slice a len cap] w fun x w' => x = .returned (.bool true) ∧ Below w.heap.size w w' := by
  unfold maxLen at hl
  by_cases hbig : (4096 : Int) < len
  · go_enter Try.func3, Try.ntmps3
    go_wp2_with fail
    refine (big1 a len cap _).mono ?_; rw [decide_eq_true hbig]; rintro x w1 ⟨rfl, rfl⟩
    go_wp2_with fail
    go_ret
    exact ⟨rfl, Below.refl _ _⟩
  have hl' : len ≤ 4096 := by omega
  have HCODE := hide hcode
  clear hcode
  go_enter Try.func3, Try.ntmps3
  go_wp2_with fail
  refine (big1 a len cap _).mono ?_; rw [decide_eq_false (by omega)]; rintro x w0 ⟨rfl, rfl⟩
  have HBW := hide (Below.refl w0.heap.size w0)
  go_wp2_with fail
  refine (drawOpened a len cap _ hl' HCODE.out).mono ?_; rintro x w1 ⟨d, v, id, rfl, ho, hd80, hb1⟩
  obtain ⟨a3, p3, rfl, _⟩ := owns_form ho
  have r3 := ev_rd (reads_of_owns ho)
  replace HBW := hide (bchain HBW.out hb1)
  clear ho hb1
  go_upto_region 4 with fail
  have hbV : Below w1.heap.size w1 (w1.alloc (.cells #[.int .i64 d.lim, .int .i64 d.top, .slice a3 d.es.length p3] 26)) := (Below.refl _ _).alloc (Nat.le_refl _) _
  have B3 := hide (BxR.make w1 d r3)
  replace HBW := hide (bchain HBW.out hbV)
  clear hbV
  generalize hV : w1.alloc (.cells #[.int .i64 d.lim, .int .i64 d.top, .slice a3 d.es.length p3] 26) = v1 at *
  clear hV
  clear r3
  obtain ⟨⟨xd, k⟩, hD⟩ : ∃ y, y = openedD d id := ⟨_, rfl⟩
  have HD := hide hD
  clear hD
  have x0 := B3.out.row.cell (j := 0) rfl
  have x1 := B3.out.row.cell (j := 1) rfl
  have x2 := B3.out.row.cell (j := 2) rfl
  have xl := B3.out.row.lt
  go_wp2_with fail
  clear x0 x1 x2 xl
  have hcl := implOpened d _ id _ B3.out.rd
  rw [← HD.out] at hcl
  try dsimp only at hcl
  refine hcl.mono ?_; clear hcl; rintro x w2 ⟨v2, rfl, ho2, hb2⟩
  obtain ⟨a5, p5, rfl, _⟩ := ho2.form
  have r5 := ho2.rd
  clear ho2
  replace B3 := hide (B3.out.new hb2)
  replace HBW := hide (bchain HBW.out hb2)
  clear hb2
  have hw02 := HBW.out.size
  go_upto_region 5 with fail
  have hbV : Below w2.heap.size w2 (w2.alloc (.cells #[.int .i64 xd.lim, .int .i64 xd.top, .slice a5 xd.es.length p5] 26)) := (Below.refl _ _).alloc (Nat.le_refl _) _
  have B5 := hide (BxR.make w2 xd r5)
  replace B3 := hide (B3.out.new hbV)
  replace HBW := hide (bchain HBW.out hbV)
  clear hbV
  generalize hV : w2.alloc (.cells #[.int .i64 xd.lim, .int .i64 xd.top, .slice a5 xd.es.length p5] 26) = v2 at *
  clear hV
  clear r5
  have x0 := B3.out.row.cell (j := 0) rfl
  have x1 := B3.out.row.cell (j := 1) rfl
  have x2 := B3.out.row.cell (j := 2) rfl
  have xl := B3.out.row.lt
  go_wp2_with fail
  clear x0 x1 x2 xl
  have hcl := specOpened d _ id _ B3.out.rd
  rw [← HD.out] at hcl
  try dsimp only at hcl
  refine hcl.mono ?_; clear hcl; rintro x w3 ⟨v3, rfl, ho3, hb3⟩
  obtain ⟨a7, p7, rfl, _⟩ := ho3.form
  have r7 := ho3.rd
  clear ho3
  replace B3 := hide (B3.out.new hb3)
  replace B5 := hide (B5.out.new hb3)
  replace HBW := hide (bchain HBW.out hb3)
  clear hb3
  go_upto_region 6 with fail
  have hbV : Below w3.heap.size w3 (w3.alloc (.cells #[.int .i64 xd.lim, .int .i64 xd.top, .slice a7 xd.es.length p7] 26)) := (Below.refl _ _).alloc (Nat.le_refl _) _
  have B7 := hide (BxR.make w3 xd r7)
  replace B3 := hide (B3.out.new hbV)
  replace B5 := hide (B5.out.new hbV)
  replace HBW := hide (bchain HBW.out hbV)
  clear hbV
  generalize hV : w3.alloc (.cells #[.int .i64 xd.lim, .int .i64 xd.top, .slice a7 xd.es.length p7] 26) = v3 at *
  clear hV
  clear r7
  have x0 := B5.out.row.cell (j := 0) rfl
  have x1 := B5.out.row.cell (j := 1) rfl
  have x2 := B5.out.row.cell (j := 2) rfl
  have xl := B5.out.row.lt
  have y0 := B7.out.row.cell (j := 0) rfl
  have y1 := B7.out.row.cell (j := 1) rfl
  have y2 := B7.out.row.cell (j := 2) rfl
  have yl := B7.out.row.lt
  go_wp2_with fail
  clear x0 x1 x2 xl
  clear y0 y1 y2 yl
  refine (likeReg1 xd _ _ _ B5.out.rd B7.out.rd).mono ?_; rintro x w4 ⟨rfl, hb4⟩
  replace B3 := hide (B3.out.new hb4)
  replace B5 := hide (B5.out.new hb4)
  replace B7 := hide (B7.out.new hb4)
  replace HBW := hide (bchain HBW.out hb4)
  clear hb4
  clear B3 B7
  by_cases hk : k = 1
  · subst hk
    go_wp2_with fail
    go_ret
    exact ⟨rfl, HBW.out⟩
  have hk' : (k == 1) = false := by simpa using hk
  have hok : okRg d = true := by
    cases h : okRg d
    · have e := HD.out
      unfold openedD at e
      rw [if_neg (by rw [h]; simp)] at e
      exact absurd (Prod.mk.inj e).2 hk
    · rfl
  have hraw : openRaw d id = (xd, k) := by have e := HD.out; unfold openedD at e; rw [if_pos hok] at e; exact e.symm
  have hxok : okRg xd = true := by have := open_ok (r := d) (id := id) hok; rw [hraw] at this; exact this
  have hxt : xd.top = id := open_top hraw hk
  have hid : 1 ≤ id ∧ id ≤ 100000 := by
    unfold openRaw at hraw
    split at hraw
    · rename_i c; have := idB_iff.1 c.1; omega
    · simp at hraw; omega
  obtain ⟨hid0, hid1⟩ := hid
  have HOK := hide hxok; have HTP := hide hxt
  clear hok hraw hxok hxt HD hk
  generalize hg : w2.heap.size = g5 at *
  clear hg
  go_wp2_with fail
  go_loopw [9] (fun n wr => ∃ (m : Nat) (xd : RegistryD) (a5 : Option Addr) (p5 : Nat), n = .int .i64 m ∧ m ≤ 6 ∧ Hid (okRg xd = true) ∧ Hid (xd.top = id) ∧ Hid (BxR wr g5 xd a5 p5) ∧ Hid (Below w0.heap.size w0 wr)) (fun n _ => 6 - (intOf n).toNat)
  case atStart => exact ⟨0, xd, a5, p5, rfl, by omega, HOK, HTP, B5, HBW⟩
  case round =>
    clear HOK HTP B5 HBW
    obtain ⟨m, yd, a6, p6, rfl, hm6, HOK, HTP, B6, HBW⟩ := hrel
    have hg5l := B6.out.row.lt
    by_cases hm : m < 6
    · skip
      have hstep : ∀ evn, okRg (happenedD yd id evn).1 = true ∧ (happenedD yd id evn).1.top = id := fun evn => by
        have h := happen_ok (r := yd) (id := id) (ev := evn) HOK.out
        unfold happenedD
        rw [if_pos HOK.out]
        exact ⟨h.1, h.2.2.1.trans HTP.out⟩
      have HST := hide hstep
      clear hstep
      go_upto_region 13 with fail
      go_cut [10, 11] (fun q b wx => ∃ (gq : Nat) (zd : RegistryD) (aq : Option Addr) (pq : Nat) (bb : Bool), q = .pointer (some ⟨gq, 0, none⟩) ∧ b = .bool bb ∧ okRg zd = true ∧ zd.top = id ∧ BxR wx gq zd aq pq ∧ (∀ q, (Value.slice aq zd.es.length pq).ownBlock = some q → wr.heap.size ≤ q) ∧ wr.heap.size ≤ gq ∧ Below wr.heap.size wr wx)
      case first =>
        refine wp_region_held_drew (S := fun u => Below wr.heap.size wr u) (by kernel_rfl) (Below.refl _ _).drew (fun hS => ?_)
        obtain ⟨u0, hu0⟩ : ∃ u : World, u = World.drew wr := ⟨_, rfl⟩
        rw [← hu0] at hS ⊢
        clear hu0
        refine wpAnyH_take (i := 0) (v := (.agg #[.int .i64 yd.lim, .int .i64 yd.top, .slice a6 yd.es.length p6])) rfl (by kernel_rfl) (by kernel_rfl) (by kernel_rfl) (fun _ _ _ h => h) (Or.inl ⟨by kernel_rfl, ?ld⟩) hS ?_; case ld => (intro uu hu; have l0 := (B6.out.new hu).row.cell (j := 0) rfl; have l1 := (B6.out.new hu).row.cell (j := 1) rfl; have l2 := (B6.out.new hu).row.cell (j := 2) rfl; have ll := (B6.out.new hu).row.lt; clear hu; go_simp)
        try simp only [Act.put, List.getElem_toArray, List.getElem_cons_succ, List.getElem_cons_zero, List.setIfInBounds_toArray, List.set_cons_zero, List.set_cons_succ]
        refine wpAnyH_take (i := 1) (v := ?_) rfl (by kernel_rfl) (by kernel_rfl) (by kernel_rfl) (fun _ _ _ h => h) (Or.inl ⟨by kernel_rfl, ?_⟩) hS ?_; rotate_left; focus (intro uu hu; clear hu; go_simp; try with_reducible rfl)
        try simp only [Act.put, List.getElem_toArray, List.getElem_cons_succ, List.getElem_cons_zero, List.setIfInBounds_toArray, List.set_cons_zero, List.set_cons_succ]
        refine wpAnyH_take (i := 2) (v := ?_) rfl (by kernel_rfl) (by kernel_rfl) (by kernel_rfl) (fun _ _ _ h => h) (Or.inl ⟨by kernel_rfl, ?_⟩) hS ?_; rotate_left; focus (intro uu hu; clear hu; go_simp; try with_reducible rfl)
        try simp only [Act.put, List.getElem_toArray, List.getElem_cons_succ, List.getElem_cons_zero, List.setIfInBounds_toArray, List.set_cons_zero, List.set_cons_succ]
        refine wpAnyH_take (i := 3) (v := ?_) rfl (by kernel_rfl) (by kernel_rfl) (by kernel_rfl) (fun _ _ _ h => h) (Or.inl ⟨by kernel_rfl, ?_⟩) hS ?_; rotate_left; focus (intro uu hu; clear hu; go_simp; try with_reducible rfl)
        try simp only [Act.put, List.getElem_toArray, List.getElem_cons_succ, List.getElem_cons_zero, List.setIfInBounds_toArray, List.set_cons_zero, List.set_cons_succ]
        refine wpAnyH_ready (rs := [4, 10]) (by kernel_rfl) (by simp) ?_
        refine (AllReadyH.cons rfl (fun K hK => ?_) (AllReadyH.cons rfl (fun K hK => ?_) AllReadyH.nil))
        · skip
          rw [if_pos (by kernel_rfl)]
          go_simp
          refine (pick1 a len cap _ _ _ _ hl' (HCODE.out.behind (bchain HBW.out hS)) (by omega) (by omega) (by omega) (by omega)).mono ?_; rintro e y1 ⟨q, q0, q1, rfl, hsame⟩; obtain rfl := hsame.symm; clear hsame
          refine hK.out _ _ hS (fun hS => ?_)
          clear hK K
          try simp only [Act.put, List.getElem_toArray, List.getElem_cons_succ, List.getElem_cons_zero, List.setIfInBounds_toArray, List.set_cons_zero, List.set_cons_succ]
          refine wpAnyH_take (i := 5) (v := .int .i64 (IntKind.i64.wrap (2 + q))) rfl (by kernel_rfl) (by kernel_rfl) (by kernel_rfl) (fun _ _ _ h => h) (Or.inl ⟨by kernel_rfl, ?ld⟩) hS ?_; case ld => (intro uu hu; clear hu; go_simp)
          try simp only [Act.put, List.getElem_toArray, List.getElem_cons_succ, List.getElem_cons_zero, List.setIfInBounds_toArray, List.set_cons_zero, List.set_cons_succ]
          refine wpAnyH_ready (rs := [6, 10]) (by kernel_rfl) (by simp) ?_
          refine (AllReadyH.cons rfl (fun K hK => ?_) (AllReadyH.cons rfl (fun K hK => ?_) AllReadyH.nil))
          · skip
            rw [if_pos (by kernel_rfl)]
            go_simp
            have hst := HST.out (IntKind.i64.wrap (2 + q))
            have hcl := implHappened yd _ id (IntKind.i64.wrap (2 + q)) _ (B6.out.new hS).rd
            obtain ⟨⟨zd, zb⟩, hY⟩ : ∃ y, y = happenedD yd id (IntKind.i64.wrap (2 + q)) := ⟨_, rfl⟩
            rw [← hY] at hcl hst
            dsimp only at hcl hst
            clear hY
            have HSZ := hide hst
            clear hst
            refine hcl.mono ?_; clear hcl; rintro e y2 ⟨vh, rfl, hoh, hby2⟩
            obtain ⟨ah, ph, rfl, _⟩ := hoh.form
            have HOH := hide hoh
            have hlo := hS.size
            have hhi := hby2.size
            clear hoh
            refine hK.out _ _ (bchain hS hby2) (fun hS => ?_)
            clear hK K hby2
            try simp only [Act.put, List.getElem_toArray, List.getElem_cons_succ, List.getElem_cons_zero, List.setIfInBounds_toArray, List.set_cons_zero, List.set_cons_succ]
            refine wpAnyH_take (i := 7) (v := ?_) rfl (by kernel_rfl) (by kernel_rfl) (by kernel_rfl) (fun _ _ _ h => h) (Or.inl ⟨by kernel_rfl, ?_⟩) hS ?_; rotate_left; focus (intro uu hu; clear hu; go_simp; try with_reducible rfl)
            try simp only [Act.put, List.getElem_toArray, List.getElem_cons_succ, List.getElem_cons_zero, List.setIfInBounds_toArray, List.set_cons_zero, List.set_cons_succ]
            refine wpAnyH_take (i := 8) (v := ?_) rfl (by kernel_rfl) (by kernel_rfl) (by kernel_rfl) (fun _ _ _ h => h) (Or.inl ⟨by kernel_rfl, ?_⟩) hS ?_; rotate_left; focus (intro uu hu; clear hu; go_simp; try with_reducible rfl)
            try simp only [Act.put, List.getElem_toArray, List.getElem_cons_succ, List.getElem_cons_zero, List.setIfInBounds_toArray, List.set_cons_zero, List.set_cons_succ]
            refine wpAnyH_take (i := 9) (v := ?_) rfl (by kernel_rfl) (by kernel_rfl) (by kernel_rfl) (fun _ _ _ h => h) (Or.inl ⟨by kernel_rfl, ?_⟩) hS ?_; rotate_left; focus (intro uu hu; clear hu; go_simp; try with_reducible rfl)
            try simp only [Act.put, List.getElem_toArray, List.getElem_cons_succ, List.getElem_cons_zero, List.setIfInBounds_toArray, List.set_cons_zero, List.set_cons_succ]
            refine wpAnyH_ready (rs := [10]) (by kernel_rfl) (by simp) ?_
            refine (AllReadyH.cons rfl (fun K hK => ?_) AllReadyH.nil)
            rw [if_pos (by kernel_rfl)]
            go_simp
            obtain ⟨y3, hy3⟩ : ∃ u, y2.alloc (.cells #[.int .i64 0, .int .i64 0, .slice none 0 0] 26) = u := ⟨_, rfl⟩
            have hby3 : Below y2.heap.size y2 y3 := by rw [← hy3]; exact (Below.refl _ _).alloc (Nat.le_refl _) _
            have HEA : Hid (RowIs y3 y2.heap.size 26 [.int .i64 0, .int .i64 0, .slice none 0 0]) := by show RowIs _ _ _ _; rw [← hy3]; exact rowIs_new y2 _ _
            replace HOH := hide (HOH.out.new hby3)
            have hlo10 := hS.size
            have hla := HEA.out.lt
            rw [hy3]
            clear hy3
            refine hK.out _ _ (bchain hS hby3) (fun hS => ?_)
            clear hK K hby3
            obtain ⟨gq, hgq⟩ : ∃ gq, y2.heap.size = gq := ⟨_, rfl⟩
            have hge : y2.heap.size ≤ gq := by omega
            rw [hgq] at HEA ⊢
            rw [hgq] at hlo10 hla
            clear hgq
            try simp only [Act.put, List.getElem_toArray, List.getElem_cons_succ, List.getElem_cons_zero, List.setIfInBounds_toArray, List.set_cons_zero, List.set_cons_succ]
            refine wpAnyH_ready (rs := [11]) (by kernel_rfl) (by simp) ?_
            refine (AllReadyH.cons rfl (fun K hK => ?_) AllReadyH.nil)
            rw [if_pos (by kernel_rfl)]
            have r0 := HEA.out.cell (j := 0) rfl
            have r1 := HEA.out.cell (j := 1) rfl
            have r2 := HEA.out.cell (j := 2) rfl
            have r3 := HEA.out.frozen 0
            have r4 := HEA.out.frozen 1
            have r5 := HEA.out.frozen 2
            have rl := HEA.out.lt
            go_simp
            clear r0 r1 r2 r3 r4 r5
            have hap : gq < u0.heap.size ∨ y2.heap.size ≤ gq := by omega
            have hbs : Below wr.heap.size wr (((y3.setCell ⟨gq, 0, none⟩ (.int .i64 zd.lim)).setCell ⟨gq, 1, none⟩ (.int .i64 zd.top)).setCell ⟨gq, 2, none⟩ (.slice ah zd.es.length ph)) := ((hS.setCell (p := ⟨gq, 0, none⟩) hlo10 _).setCell (p := ⟨gq, 1, none⟩) hlo10 _).setCell (p := ⟨gq, 2, none⟩) hlo10 _
            have hrow : RowIs (((y3.setCell ⟨gq, 0, none⟩ (.int .i64 zd.lim)).setCell ⟨gq, 1, none⟩ (.int .i64 zd.top)).setCell ⟨gq, 2, none⟩ (.slice ah zd.es.length ph)) gq 26 [.int .i64 zd.lim, .int .i64 zd.top, .slice ah zd.es.length ph] := ((HEA.out.set 0 _).set 1 _).set 2 _
            have hox := ((HOH.out.far ⟨gq, 0, none⟩ (.int .i64 zd.lim) hap).far ⟨gq, 1, none⟩ (.int .i64 zd.top) hap).far ⟨gq, 2, none⟩ (.slice ah zd.es.length ph) hap
            have HFIN : Hid (BxR (((y3.setCell ⟨gq, 0, none⟩ (.int .i64 zd.lim)).setCell ⟨gq, 1, none⟩ (.int .i64 zd.top)).setCell ⟨gq, 2, none⟩ (.slice ah zd.es.length ph)) gq zd ah ph ∧ ∀ q, (Value.slice ah zd.es.length ph).ownBlock = some q → wr.heap.size ≤ q) := ⟨⟨hrow, hox.rd⟩, fun q hq => by have := (hox.own q hq).1; omega⟩
            clear hrow hox
            refine hK.out _ _ hbs (fun hS => ?_)
            clear hK K hbs
            generalize (((y3.setCell ⟨gq, 0, none⟩ (.int .i64 zd.lim)).setCell ⟨gq, 1, none⟩ (.int .i64 zd.top)).setCell ⟨gq, 2, none⟩ (.slice ah zd.es.length ph)) = y4 at *
            try simp only [Act.put, List.getElem_toArray, List.getElem_cons_succ, List.getElem_cons_zero, List.setIfInBounds_toArray, List.set_cons_zero, List.set_cons_succ]
            refine wpAnyH_take (i := 12) (v := ?_) rfl (by kernel_rfl) (by kernel_rfl) (by kernel_rfl) (fun _ _ _ h => h) (Or.inl ⟨by kernel_rfl, ?_⟩) hS ?_; rotate_left; focus (intro uu hu; clear hu; go_simp; try with_reducible rfl)
            try simp only [Act.put, List.getElem_toArray, List.getElem_cons_succ, List.getElem_cons_zero, List.setIfInBounds_toArray, List.set_cons_zero, List.set_cons_succ]
            refine wpAnyH_done (by kernel_rfl) ?_ _
            go_wp2_with fail
            go_meet
            exact ⟨gq, zd, ah, ph, zb, rfl, rfl, HSZ.out.1, HSZ.out.2, HFIN.out.1, HFIN.out.2, hlo10, hS⟩
          · skip
            rw [if_pos (by kernel_rfl)]
            go_simp
            obtain ⟨y5, hy5⟩ : ∃ u, u0.alloc (.cells #[.int .i64 0, .int .i64 0, .slice none 0 0] 26) = u := ⟨_, rfl⟩
            have hby5 : Below u0.heap.size u0 y5 := by rw [← hy5]; exact (Below.refl _ _).alloc (Nat.le_refl _) _
            have HEA : Hid (RowIs y5 u0.heap.size 26 [.int .i64 0, .int .i64 0, .slice none 0 0]) := by show RowIs _ _ _ _; rw [← hy5]; exact rowIs_new u0 _ _
            have hlo10 := hS.size
            have hla := HEA.out.lt
            rw [hy5]
            clear hy5
            refine hK.out _ _ (bchain hS hby5) (fun hS => ?_)
            clear hK K hby5
            obtain ⟨gq, hgq⟩ : ∃ gq, u0.heap.size = gq := ⟨_, rfl⟩
            have hge : u0.heap.size ≤ gq := by omega
            rw [hgq] at HEA ⊢
            rw [hgq] at hlo10 hla
            clear hgq
            try simp only [Act.put, List.getElem_toArray, List.getElem_cons_succ, List.getElem_cons_zero, List.setIfInBounds_toArray, List.set_cons_zero, List.set_cons_succ]
            refine wpAnyH_ready (rs := [6]) (by kernel_rfl) (by simp) ?_
            refine (AllReadyH.cons rfl (fun K hK => ?_) AllReadyH.nil)
            rw [if_pos (by kernel_rfl)]
            go_simp
            have hst := HST.out (IntKind.i64.wrap (2 + q))
            have hcl := implHappened yd _ id (IntKind.i64.wrap (2 + q)) _ (B6.out.new hS).rd
            obtain ⟨⟨zd, zb⟩, hY⟩ : ∃ y, y = happenedD yd id (IntKind.i64.wrap (2 + q)) := ⟨_, rfl⟩
            rw [← hY] at hcl hst
            dsimp only at hcl hst
            clear hY
            have HSZ := hide hst
            clear hst
            refine hcl.mono ?_; clear hcl; rintro e y6 ⟨vh, rfl, hoh, hby6⟩
            obtain ⟨ah, ph, rfl, _⟩ := hoh.form
            have HOH := hide hoh
            have hlo := hS.size
            have hhi := hby6.size
            clear hoh
            replace HEA := hide (HEA.out.new hby6)
            refine hK.out _ _ (bchain hS hby6) (fun hS => ?_)
            clear hK K hby6
            try simp only [Act.put, List.getElem_toArray, List.getElem_cons_succ, List.getElem_cons_zero, List.setIfInBounds_toArray, List.set_cons_zero, List.set_cons_succ]
            refine wpAnyH_take (i := 7) (v := ?_) rfl (by kernel_rfl) (by kernel_rfl) (by kernel_rfl) (fun _ _ _ h => h) (Or.inl ⟨by kernel_rfl, ?_⟩) hS ?_; rotate_left; focus (intro uu hu; clear hu; go_simp; try with_reducible rfl)
            try simp only [Act.put, List.getElem_toArray, List.getElem_cons_succ, List.getElem_cons_zero, List.setIfInBounds_toArray, List.set_cons_zero, List.set_cons_succ]
            refine wpAnyH_take (i := 8) (v := ?_) rfl (by kernel_rfl) (by kernel_rfl) (by kernel_rfl) (fun _ _ _ h => h) (Or.inl ⟨by kernel_rfl, ?_⟩) hS ?_; rotate_left; focus (intro uu hu; clear hu; go_simp; try with_reducible rfl)
            try simp only [Act.put, List.getElem_toArray, List.getElem_cons_succ, List.getElem_cons_zero, List.setIfInBounds_toArray, List.set_cons_zero, List.set_cons_succ]
            refine wpAnyH_take (i := 9) (v := ?_) rfl (by kernel_rfl) (by kernel_rfl) (by kernel_rfl) (fun _ _ _ h => h) (Or.inl ⟨by kernel_rfl, ?_⟩) hS ?_; rotate_left; focus (intro uu hu; clear hu; go_simp; try with_reducible rfl)
            try simp only [Act.put, List.getElem_toArray, List.getElem_cons_succ, List.getElem_cons_zero, List.setIfInBounds_toArray, List.set_cons_zero, List.set_cons_succ]
            refine wpAnyH_ready (rs := [11]) (by kernel_rfl) (by simp) ?_
            refine (AllReadyH.cons rfl (fun K hK => ?_) AllReadyH.nil)
            rw [if_pos (by kernel_rfl)]
            have r0 := HEA.out.cell (j := 0) rfl
            have r1 := HEA.out.cell (j := 1) rfl
            have r2 := HEA.out.cell (j := 2) rfl
            have r3 := HEA.out.frozen 0
            have r4 := HEA.out.frozen 1
            have r5 := HEA.out.frozen 2
            have rl := HEA.out.lt
            go_simp
            clear r0 r1 r2 r3 r4 r5
            have hap : gq < y5.heap.size ∨ y6.heap.size ≤ gq := by omega
            have hbs : Below wr.heap.size wr (((y6.setCell ⟨gq, 0, none⟩ (.int .i64 zd.lim)).setCell ⟨gq, 1, none⟩ (.int .i64 zd.top)).setCell ⟨gq, 2, none⟩ (.slice ah zd.es.length ph)) := ((hS.setCell (p := ⟨gq, 0, none⟩) hlo10 _).setCell (p := ⟨gq, 1, none⟩) hlo10 _).setCell (p := ⟨gq, 2, none⟩) hlo10 _
            have hrow : RowIs (((y6.setCell ⟨gq, 0, none⟩ (.int .i64 zd.lim)).setCell ⟨gq, 1, none⟩ (.int .i64 zd.top)).setCell ⟨gq, 2, none⟩ (.slice ah zd.es.length ph)) gq 26 [.int .i64 zd.lim, .int .i64 zd.top, .slice ah zd.es.length ph] := ((HEA.out.set 0 _).set 1 _).set 2 _
            have hox := ((HOH.out.far ⟨gq, 0, none⟩ (.int .i64 zd.lim) hap).far ⟨gq, 1, none⟩ (.int .i64 zd.top) hap).far ⟨gq, 2, none⟩ (.slice ah zd.es.length ph) hap
            have HFIN : Hid (BxR (((y6.setCell ⟨gq, 0, none⟩ (.int .i64 zd.lim)).setCell ⟨gq, 1, none⟩ (.int .i64 zd.top)).setCell ⟨gq, 2, none⟩ (.slice ah zd.es.length ph)) gq zd ah ph ∧ ∀ q, (Value.slice ah zd.es.length ph).ownBlock = some q → wr.heap.size ≤ q) := ⟨⟨hrow, hox.rd⟩, fun q hq => by have := (hox.own q hq).1; omega⟩
            clear hrow hox
            refine hK.out _ _ hbs (fun hS => ?_)
            clear hK K hbs
            generalize (((y6.setCell ⟨gq, 0, none⟩ (.int .i64 zd.lim)).setCell ⟨gq, 1, none⟩ (.int .i64 zd.top)).setCell ⟨gq, 2, none⟩ (.slice ah zd.es.length ph)) = y7 at *
            try simp only [Act.put, List.getElem_toArray, List.getElem_cons_succ, List.getElem_cons_zero, List.setIfInBounds_toArray, List.set_cons_zero, List.set_cons_succ]
            refine wpAnyH_take (i := 12) (v := ?_) rfl (by kernel_rfl) (by kernel_rfl) (by kernel_rfl) (fun _ _ _ h => h) (Or.inl ⟨by kernel_rfl, ?_⟩) hS ?_; rotate_left; focus (intro uu hu; clear hu; go_simp; try with_reducible rfl)
            try simp only [Act.put, List.getElem_toArray, List.getElem_cons_succ, List.getElem_cons_zero, List.setIfInBounds_toArray, List.set_cons_zero, List.set_cons_succ]
            refine wpAnyH_done (by kernel_rfl) ?_ _
            go_wp2_with fail
            go_meet
            exact ⟨gq, zd, ah, ph, zb, rfl, rfl, HSZ.out.1, HSZ.out.2, HFIN.out.1, HFIN.out.2, hlo10, hS⟩
        · skip
          rw [if_pos (by kernel_rfl)]
          go_simp
          obtain ⟨y8, hy8⟩ : ∃ u, u0.alloc (.cells #[.int .i64 0, .int .i64 0, .slice none 0 0] 26) = u := ⟨_, rfl⟩
          have hby8 : Below u0.heap.size u0 y8 := by rw [← hy8]; exact (Below.refl _ _).alloc (Nat.le_refl _) _
          have HEA : Hid (RowIs y8 u0.heap.size 26 [.int .i64 0, .int .i64 0, .slice none 0 0]) := by show RowIs _ _ _ _; rw [← hy8]; exact rowIs_new u0 _ _
          have hlo10 := hS.size
          have hla := HEA.out.lt
          rw [hy8]
          clear hy8
          refine hK.out _ _ (bchain hS hby8) (fun hS => ?_)
          clear hK K hby8
          obtain ⟨gq, hgq⟩ : ∃ gq, u0.heap.size = gq := ⟨_, rfl⟩
          have hge : u0.heap.size ≤ gq := by omega
          rw [hgq] at HEA ⊢
          rw [hgq] at hlo10 hla
          clear hgq
          try simp only [Act.put, List.getElem_toArray, List.getElem_cons_succ, List.getElem_cons_zero, List.setIfInBounds_toArray, List.set_cons_zero, List.set_cons_succ]
          refine wpAnyH_ready (rs := [4]) (by kernel_rfl) (by simp) ?_
          refine (AllReadyH.cons rfl (fun K hK => ?_) AllReadyH.nil)
          rw [if_pos (by kernel_rfl)]
          go_simp
          refine (pick1 a len cap _ _ _ _ hl' (HCODE.out.behind (bchain HBW.out hS)) (by omega) (by omega) (by omega) (by omega)).mono ?_; rintro e y9 ⟨q, q0, q1, rfl, hsame⟩; obtain rfl := hsame.symm; clear hsame
          refine hK.out _ _ hS (fun hS => ?_)
          clear hK K
          try simp only [Act.put, List.getElem_toArray, List.getElem_cons_succ, List.getElem_cons_zero, List.setIfInBounds_toArray, List.set_cons_zero, List.set_cons_succ]
          refine wpAnyH_take (i := 5) (v := .int .i64 (IntKind.i64.wrap (2 + q))) rfl (by kernel_rfl) (by kernel_rfl) (by kernel_rfl) (fun _ _ _ h => h) (Or.inl ⟨by kernel_rfl, ?ld⟩) hS ?_; case ld => (intro uu hu; clear hu; go_simp)
          try simp only [Act.put, List.getElem_toArray, List.getElem_cons_succ, List.getElem_cons_zero, List.setIfInBounds_toArray, List.set_cons_zero, List.set_cons_succ]
          refine wpAnyH_ready (rs := [6]) (by kernel_rfl) (by simp) ?_
          refine (AllReadyH.cons rfl (fun K hK => ?_) AllReadyH.nil)
          rw [if_pos (by kernel_rfl)]
          go_simp
          have hst := HST.out (IntKind.i64.wrap (2 + q))
          have hcl := implHappened yd _ id (IntKind.i64.wrap (2 + q)) _ (B6.out.new hS).rd
          obtain ⟨⟨zd, zb⟩, hY⟩ : ∃ y, y = happenedD yd id (IntKind.i64.wrap (2 + q)) := ⟨_, rfl⟩
          rw [← hY] at hcl hst
          dsimp only at hcl hst
          clear hY
          have HSZ := hide hst
          clear hst
          refine hcl.mono ?_; clear hcl; rintro e y10 ⟨vh, rfl, hoh, hby10⟩
          obtain ⟨ah, ph, rfl, _⟩ := hoh.form
          have HOH := hide hoh
          have hlo := hS.size
          have hhi := hby10.size
          clear hoh
          replace HEA := hide (HEA.out.new hby10)
          refine hK.out _ _ (bchain hS hby10) (fun hS => ?_)
          clear hK K hby10
          try simp only [Act.put, List.getElem_toArray, List.getElem_cons_succ, List.getElem_cons_zero, List.setIfInBounds_toArray, List.set_cons_zero, List.set_cons_succ]
          refine wpAnyH_take (i := 7) (v := ?_) rfl (by kernel_rfl) (by kernel_rfl) (by kernel_rfl) (fun _ _ _ h => h) (Or.inl ⟨by kernel_rfl, ?_⟩) hS ?_; rotate_left; focus (intro uu hu; clear hu; go_simp; try with_reducible rfl)
          try simp only [Act.put, List.getElem_toArray, List.getElem_cons_succ, List.getElem_cons_zero, List.setIfInBounds_toArray, List.set_cons_zero, List.set_cons_succ]
          refine wpAnyH_take (i := 8) (v := ?_) rfl (by kernel_rfl) (by kernel_rfl) (by kernel_rfl) (fun _ _ _ h => h) (Or.inl ⟨by kernel_rfl, ?_⟩) hS ?_; rotate_left; focus (intro uu hu; clear hu; go_simp; try with_reducible rfl)
          try simp only [Act.put, List.getElem_toArray, List.getElem_cons_succ, List.getElem_cons_zero, List.setIfInBounds_toArray, List.set_cons_zero, List.set_cons_succ]
          refine wpAnyH_take (i := 9) (v := ?_) rfl (by kernel_rfl) (by kernel_rfl) (by kernel_rfl) (fun _ _ _ h => h) (Or.inl ⟨by kernel_rfl, ?_⟩) hS ?_; rotate_left; focus (intro uu hu; clear hu; go_simp; try with_reducible rfl)
          try simp only [Act.put, List.getElem_toArray, List.getElem_cons_succ, List.getElem_cons_zero, List.setIfInBounds_toArray, List.set_cons_zero, List.set_cons_succ]
          refine wpAnyH_ready (rs := [11]) (by kernel_rfl) (by simp) ?_
          refine (AllReadyH.cons rfl (fun K hK => ?_) AllReadyH.nil)
          rw [if_pos (by kernel_rfl)]
          have r0 := HEA.out.cell (j := 0) rfl
          have r1 := HEA.out.cell (j := 1) rfl
          have r2 := HEA.out.cell (j := 2) rfl
          have r3 := HEA.out.frozen 0
          have r4 := HEA.out.frozen 1
          have r5 := HEA.out.frozen 2
          have rl := HEA.out.lt
          go_simp
          clear r0 r1 r2 r3 r4 r5
          have hap : gq < y8.heap.size ∨ y10.heap.size ≤ gq := by omega
          have hbs : Below wr.heap.size wr (((y10.setCell ⟨gq, 0, none⟩ (.int .i64 zd.lim)).setCell ⟨gq, 1, none⟩ (.int .i64 zd.top)).setCell ⟨gq, 2, none⟩ (.slice ah zd.es.length ph)) := ((hS.setCell (p := ⟨gq, 0, none⟩) hlo10 _).setCell (p := ⟨gq, 1, none⟩) hlo10 _).setCell (p := ⟨gq, 2, none⟩) hlo10 _
          have hrow : RowIs (((y10.setCell ⟨gq, 0, none⟩ (.int .i64 zd.lim)).setCell ⟨gq, 1, none⟩ (.int .i64 zd.top)).setCell ⟨gq, 2, none⟩ (.slice ah zd.es.length ph)) gq 26 [.int .i64 zd.lim, .int .i64 zd.top, .slice ah zd.es.length ph] := ((HEA.out.set 0 _).set 1 _).set 2 _
          have hox := ((HOH.out.far ⟨gq, 0, none⟩ (.int .i64 zd.lim) hap).far ⟨gq, 1, none⟩ (.int .i64 zd.top) hap).far ⟨gq, 2, none⟩ (.slice ah zd.es.length ph) hap
          have HFIN : Hid (BxR (((y10.setCell ⟨gq, 0, none⟩ (.int .i64 zd.lim)).setCell ⟨gq, 1, none⟩ (.int .i64 zd.top)).setCell ⟨gq, 2, none⟩ (.slice ah zd.es.length ph)) gq zd ah ph ∧ ∀ q, (Value.slice ah zd.es.length ph).ownBlock = some q → wr.heap.size ≤ q) := ⟨⟨hrow, hox.rd⟩, fun q hq => by have := (hox.own q hq).1; omega⟩
          clear hrow hox
          refine hK.out _ _ hbs (fun hS => ?_)
          clear hK K hbs
          generalize (((y10.setCell ⟨gq, 0, none⟩ (.int .i64 zd.lim)).setCell ⟨gq, 1, none⟩ (.int .i64 zd.top)).setCell ⟨gq, 2, none⟩ (.slice ah zd.es.length ph)) = y11 at *
          try simp only [Act.put, List.getElem_toArray, List.getElem_cons_succ, List.getElem_cons_zero, List.setIfInBounds_toArray, List.set_cons_zero, List.set_cons_succ]
          refine wpAnyH_take (i := 12) (v := ?_) rfl (by kernel_rfl) (by kernel_rfl) (by kernel_rfl) (fun _ _ _ h => h) (Or.inl ⟨by kernel_rfl, ?_⟩) hS ?_; rotate_left; focus (intro uu hu; clear hu; go_simp; try with_reducible rfl)
          try simp only [Act.put, List.getElem_toArray, List.getElem_cons_succ, List.getElem_cons_zero, List.setIfInBounds_toArray, List.set_cons_zero, List.set_cons_succ]
          refine wpAnyH_done (by kernel_rfl) ?_ _
          go_wp2_with fail
          go_meet
          exact ⟨gq, zd, ah, ph, zb, rfl, rfl, HSZ.out.1, HSZ.out.2, HFIN.out.1, HFIN.out.2, hlo10, hS⟩
      case rest =>
        obtain ⟨gq, zd, aq, pq, bb, rfl, rfl, hok1, htp1, hbq, hoq, hgq, hbw⟩ := hcut
        obtain ⟨w7, rfl⟩ : ∃ v : World, v = wc := ⟨_, rfl⟩
        have HOK1 := hide hok1; have HTP1 := hide htp1; have BQ := hide hbq; have HOQ := hide hoq
        replace B6 := hide (B6.out.new hbw)
        replace HBW := hide (bchain HBW.out hbw)
        have hs7 := hbw.size
        clear hok1 htp1 hbq hoq hbw HST
        have x0 := BQ.out.row.cell (j := 0) rfl
        have x1 := BQ.out.row.cell (j := 1) rfl
        have x2 := BQ.out.row.cell (j := 2) rfl
        have xl := BQ.out.row.lt
        have y0 := B6.out.row.cell (j := 0) rfl
        have y1 := B6.out.row.cell (j := 1) rfl
        have y2 := B6.out.row.cell (j := 2) rfl
        have y3 := B6.out.row.frozen 0
        have y4 := B6.out.row.frozen 1
        have y5 := B6.out.row.frozen 2
        have yl := B6.out.row.lt
        have hgg : gq ≠ g5 := by omega
        go_upto_region 15 with fail
        have hnq : (Value.slice aq zd.es.length pq).ownBlock ≠ some g5 := fun hq => by have := HOQ.out _ hq; omega
        have B8 := hide (B6.out.put BQ.out.rd hnq)
        have HBW8 := hide (((HBW.out.setCell (p := ⟨g5, 0, none⟩) hw02 (.int .i64 zd.lim)).setCell (p := ⟨g5, 1, none⟩) hw02 (.int .i64 zd.top)).setCell (p := ⟨g5, 2, none⟩) hw02 (.slice aq zd.es.length pq))
        clear x0 x1 x2 xl y0 y1 y2 y3 y4 y5 yl hgg hnq B6 BQ HBW HOQ
        generalize ((w7.setCell ⟨g5, 0, none⟩ (.int .i64 zd.lim)).setCell ⟨g5, 1, none⟩ (.int .i64 zd.top)).setCell ⟨g5, 2, none⟩ (.slice aq zd.es.length pq) = w8 at *
        go_wp2_with fail
        refine (pick1 a len cap _ _ _ _ hl' (HCODE.out.behind HBW8.out) (by omega) (by omega) (by omega) (by omega)).mono ?_; rintro e w9 ⟨q, q0, q1, rfl, hsame⟩; obtain rfl := hsame.symm; clear hsame
        by_cases hq : q = 0
        · subst hq
          have x0 := B8.out.row.cell (j := 0) rfl
          have x1 := B8.out.row.cell (j := 1) rfl
          have x2 := B8.out.row.cell (j := 2) rfl
          have xl := B8.out.row.lt
          go_wp2_with fail
          have hsw : okRg (sweptD zd) = true ∧ (sweptD zd).top = id := by
            unfold sweptD
            rw [if_pos HOK1.out]
            exact ⟨swept_ok HOK1.out, HTP1.out⟩
          have hcl := implSwept zd _ _ B8.out.rd
          obtain ⟨sd, hS⟩ : ∃ y, y = sweptD zd := ⟨_, rfl⟩
          rw [← hS] at hcl hsw
          clear hS
          refine hcl.mono ?_; clear hcl; rintro x w10 ⟨vs, rfl, hos, hbs⟩
          obtain ⟨ag, ps, rfl, _⟩ := hos.form
          have hns : (Value.slice ag sd.es.length ps).ownBlock ≠ some g5 := hos.ge xl
          have hrs := hos.rd
          replace B8 := hide (B8.out.new hbs)
          replace HBW8 := hide (bchain HBW8.out hbs)
          clear hos hbs x0 x1 x2 xl
          have y0 := B8.out.row.cell (j := 0) rfl
          have y1 := B8.out.row.cell (j := 1) rfl
          have y2 := B8.out.row.cell (j := 2) rfl
          have y3 := B8.out.row.frozen 0
          have y4 := B8.out.row.frozen 1
          have y5 := B8.out.row.frozen 2
          have yl := B8.out.row.lt
          have B9 := hide (B8.out.put hrs hns)
          have HBW9 := hide (((HBW8.out.setCell (p := ⟨g5, 0, none⟩) hw02 (.int .i64 sd.lim)).setCell (p := ⟨g5, 1, none⟩) hw02 (.int .i64 sd.top)).setCell (p := ⟨g5, 2, none⟩) hw02 (.slice ag sd.es.length ps))
          have HSW := hide hsw
          clear hrs hns B8 HBW8 hsw
          go_wp2_with fail
          go_roundw
          case rel => exact ⟨m + 1, sd, ag, ps, by go_num, by omega, HSW.out.1, HSW.out.2, B9, HBW9⟩
          case measure => simp [intOf]; omega
        · have hq' : (q == 0) = false := by simpa using hq
          clear hq
          go_wp2_with fail
          go_roundw
          case rel => exact ⟨m + 1, zd, aq, pq, by go_num, by omega, HOK1, HTP1, B8, HBW8⟩
          case measure => simp [intOf]; omega
    · obtain rfl : m = 6 := by omega
      have hagain : ∀ i, i ≤ id → openedD yd i = (yd, 1) := fun i hi => by unfold openedD; rw [if_pos HOK.out]; exact open_again (by rw [HTP.out]; exact hi)
      have HAG := hide hagain
      clear hagain
      have x0 := B6.out.row.cell (j := 0) rfl
      have x1 := B6.out.row.cell (j := 1) rfl
      have x2 := B6.out.row.cell (j := 2) rfl
      have xl := B6.out.row.lt
      go_wp2_with fail
      clear x0 x1 x2 xl
      have hcl := implOpened yd _ id _ B6.out.rd
      rw [HAG.out id (by omega)] at hcl
      try dsimp only at hcl
      refine hcl.mono ?_; clear hcl; rintro x w11 ⟨v11, rfl, ho11, hb11⟩
      obtain ⟨a11, p11, rfl, _⟩ := ho11.form
      have r11 := ho11.rd
      clear ho11
      replace B6 := hide (B6.out.new hb11)
      replace HBW := hide (bchain HBW.out hb11)
      clear hb11
      go_upto_region 18 with fail
      have hbV : Below w11.heap.size w11 (w11.alloc (.cells #[.int .i64 yd.lim, .int .i64 yd.top, .slice a11 yd.es.length p11] 26)) := (Below.refl _ _).alloc (Nat.le_refl _) _
      have B11 := hide (BxR.make w11 yd r11)
      replace B6 := hide (B6.out.new hbV)
      replace HBW := hide (bchain HBW.out hbV)
      clear hbV
      generalize hV : w11.alloc (.cells #[.int .i64 yd.lim, .int .i64 yd.top, .slice a11 yd.es.length p11] 26) = v11 at *
      clear hV
      clear r11
      have x0 := B6.out.row.cell (j := 0) rfl
      have x1 := B6.out.row.cell (j := 1) rfl
      have x2 := B6.out.row.cell (j := 2) rfl
      have xl := B6.out.row.lt
      go_wp2_with fail
      clear x0 x1 x2 xl
      have hcl := implOpened yd _ (id - 2) _ B6.out.rd
      rw [HAG.out (id - 2) (by omega)] at hcl
      try dsimp only at hcl
      refine hcl.mono ?_; clear hcl; rintro x w12 ⟨v12, rfl, ho12, hb12⟩
      obtain ⟨a12, p12, rfl, _⟩ := ho12.form
      clear ho12
      replace B6 := hide (B6.out.new hb12)
      replace B11 := hide (B11.out.new hb12)
      replace HBW := hide (bchain HBW.out hb12)
      clear hb12
      go_upto_region 19 with fail
      have hbV : Below w12.heap.size w12 (w12.alloc (.cells #[.int .i64 yd.lim, .int .i64 yd.top, .slice a12 yd.es.length p12] 26)) := (Below.refl _ _).alloc (Nat.le_refl _) _
      replace B6 := hide (B6.out.new hbV)
      replace B11 := hide (B11.out.new hbV)
      replace HBW := hide (bchain HBW.out hbV)
      clear hbV
      generalize w12.alloc (.cells #[.int .i64 yd.lim, .int .i64 yd.top, .slice a12 yd.es.length p12] 26) = v12 at *
      have x0 := B11.out.row.cell (j := 0) rfl
      have x1 := B11.out.row.cell (j := 1) rfl
      have x2 := B11.out.row.cell (j := 2) rfl
      have xl := B11.out.row.lt
      have y0 := B6.out.row.cell (j := 0) rfl
      have y1 := B6.out.row.cell (j := 1) rfl
      have y2 := B6.out.row.cell (j := 2) rfl
      have yl := B6.out.row.lt
      go_wp2_with fail
      clear x0 x1 x2 xl
      clear y0 y1 y2 yl
      refine (likeReg1 yd _ _ _ B11.out.rd B6.out.rd).mono ?_; rintro x w13 ⟨rfl, hb13⟩
      replace B6 := hide (B6.out.new hb13)
      replace B11 := hide (B11.out.new hb13)
      replace HBW := hide (bchain HBW.out hb13)
      clear hb13
      go_wp2_with fail
      go_ret
      exact ⟨rfl, HBW.out⟩

open Go.ChangeShapes Go.WideShapes Go.ChangeAt Go.Joins
open Go.ChangeMaps (open_string shut_string)


theorem own : ownKnob Try.prog.godebug = none := by kernel_rfl
theorem laidOut : laidOutB Try.prog = true := by kernel_rfl

set_option maxRecDepth 100000 in
theorem lifted (os : Os) (started : os.Started) (H : Type) (enc : TypeId × Value → H) :
    ReturnsInHanded {} Try.checked os 3 .any (Rows.fnNoTwiceSpec.pre6 enc Try.prog Try.f3 Rows.fnNoTwiceRow.domain false) (Rows.fnNoTwiceSpec.post enc Try.prog Try.f3 false true false false) := by
  refine returnsInHanded_of_change (C := Try.checked) own started (by kernel_rfl) Try.func3
    (ChangeSpec.witness6 (enc := enc) (C := Try.checked) false ⟨#[], #[.slice none 0 0], []⟩ 8 (by kernel_rfl) (by kernel_rfl) (by kernel_rfl) (by kernel_rfl)) ?_
  intro W base args ds gs before hval0 hW hcnd _
  have hval : ∀ (j : Nat) t v, Try.f3.params[j]? = some t → args[j]? = some v → Value.okWide Try.prog W .any base t v := hval0
  have hW' := hW
  obtain ⟨p, q, hA0, hV, rfl, hfz, hnd⟩ := hW
  have hA : DataW.TrodAll enc Try.prog W 0 (fun _ => true) true Try.f3.params.toList args.toList ds p := hA0
  rw [Try.params3] at hA hval
  obtain ⟨v0, vs0, d0, ds0, p0, q0, hargs, rfl, rfl, h0, r0⟩ := trodAll_cons hA
  obtain ⟨rfl, rfl, rfl⟩ := trodAll_nil r0
  obtain rfl : args = #[v0] := by cases args; simp_all
  obtain ⟨rfl, rfl⟩ := trodVars_none hV
  have k0 := h0
  have lt0 : ∀ x ∈ p0, x.block < W.heap.size := by obtain ⟨m, hm⟩ := k0; exact DataW.trod_lt m _ _ _ hm
  obtain ⟨a0, len0, cap0, rfl⟩ := okWide_slice Try.underlying22 (hval 0 22 v0 rfl rfl); obtain ⟨hl0, hc0⟩ := open_code h0
  clear hA0 hval0
  refine (walk a0 len0 cap0 W hl0 hc0).mono fun e W' ⟨he, bel⟩ => ?_
  subst he
  exact ⟨_, rfl, _, _, _, [], _, [], hW', trodAll_mk1 (shut_bool Try.underlying4 _), (trodAll_cons_mk (Below.trod laidOut (by kernel_rfl) (of_decide_eq_true (by kernel_rfl)) k0 bel lt0) trodAll_mk0), rfl, bel.frame _, fun h => by cases h⟩

theorem over : Rows.fnNoTwiceRow.holds Try.pinned (OpenSpec.ofChange Rows.fnNoTwiceSpec) :=
  OpenClaim.holds_of_wide 3 Try.f3 rfl rfl rfl rfl rfl rfl rfl ⟨rfl, rfl, rfl, rfl, rfl⟩ rfl rfl rfl rfl rfl (by kernel_rfl) Try.func3 (by kernel_rfl)
    (of_decide_eq_true (by kernel_rfl)) (by unfold Func.isWrapper; first | (rw [if_pos (by decide +kernel)]; kernel_rfl) | (rw [if_neg (by decide +kernel)]; exact ⟨rfl, rfl⟩))
    (fun os started H enc _ => lifted os started H enc)

end lawNoTwice

theorem lawNoTwice_proved : Rows.FnNoTwiceSaid := lawNoTwice.over
#print axioms lawNoTwice_proved
end Go.Proofs.Ytgodopiejiajjaa
