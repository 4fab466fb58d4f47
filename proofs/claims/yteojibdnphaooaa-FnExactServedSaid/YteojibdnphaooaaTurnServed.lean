/- Chapter 11's model: Served. -/
import Derived.Test.YteojibdnphaooaaTurnServe
import Derived.Test.YteojibdnphaooaaTurnCopy

namespace Go.Proofs.Yteojibdnphaooaa
open Go.RowKit
set_option maxRecDepth 100000
set_option linter.unusedSimpArgs false
set_option linter.unusedVariables false
theorem serveRaw_ls {d : RoundD} (h : okRn d = true) : (serveRaw d).1.ls.length = d.ls.length := by
  by_cases hw : waitLs d.ls = 0
  · unfold serveRaw; rw [if_pos hw]
  · obtain ⟨y, k, n, e, hr⟩ := serve_some h hw
    unfold servedD at e
    rw [if_pos h] at e
    rw [e]; exact hr.len
set_option maxHeartbeats 2000000 in
theorem specServed (d : RoundD) (v : Value) (w : World) (hr : RdR lineS w v d.ls) : Calls Try.prog 12 #[.agg #[.int .i64 d.turn, .bool d.given, v]] w fun x w' => ∃ v', x = .returned (.tuple #[.agg #[.int .i64 (servedD d).1.turn, .bool (servedD d).1.given, v'], .int .i64 (servedD d).2.1, .int .i64 (servedD d).2.2]) ∧ OwX lineS w' w.heap.size w'.heap.size v' (servedD d).1.ls ∧ Below w.heap.size w w' := by
  obtain ⟨ad, cap, rfl, h1, h2⟩ := hr.form
  have HR := hide hr
  clear hr
  have hok := fun w h => specRoundOk d (.slice ad d.ls.length cap) w h
  obtain ⟨⟨dr, da, db⟩, hD⟩ : ∃ y, servedD d = y := ⟨_, rfl⟩
  have HD : Hid ((dr, da, db) = if okRn d = true then serveRaw d else (zRn, -1, 0)) := by show _ = _; rw [← hD]; rfl
  rw [hD]
  dsimp only
  clear hD
  go_enter Try.func12, Try.ntmps12
  go_wp2_with fail
  obtain ⟨V, hV⟩ : ∃ V, (w.alloc (.cells #[.int .i64 d.turn, .bool d.given, .slice ad d.ls.length cap] 26)).alloc (.cells #[.int .i64 0, .bool false, .slice none 0 0] 26) = V := ⟨_, rfl⟩
  have HB : Hid (Below w.heap.size w V) := by show Below _ _ _; rw [← hV]; exact bo_alloc ((Below.refl _ _).alloc (Nat.le_refl _) _) _
  have HX : Hid (RowIs V w.heap.size 26 [.int .i64 d.turn, .bool d.given, .slice ad d.ls.length cap]) := by show RowIs _ _ _ _; rw [← hV]; exact (rowIs_new w 26 [.int .i64 d.turn, .bool d.given, .slice ad d.ls.length cap]).alloc _
  have HRR : Hid (RowIs V (w.heap.size + 1) 26 [.int .i64 0, .bool false, .slice none 0 0]) := by show RowIs _ _ _ _; rw [← hV]; simpa using rowIs_new (w.alloc (.cells #[.int .i64 d.turn, .bool d.given, .slice ad d.ls.length cap] 26)) 26 [.int .i64 0, .bool false, .slice none 0 0]
  rw [hV]
  clear hV
  refine (hok _ (HR.out.new HB.out)).mono ?_
  cases hq : okRn d
  · rintro z w1 ⟨rfl, hb1⟩
    have HDD : Hid ((dr, da, db) = (zRn, -1, 0)) := by show _ = _; rw [HD.out, if_neg (by rw [hq]; simp)]
    obtain ⟨rfl, e2⟩ := Prod.mk.inj HDD.out
    obtain ⟨rfl, rfl⟩ := Prod.mk.inj e2
    replace HRR := hide (HRR.out.new hb1)
    replace HB := hide (bchain HB.out hb1)
    clear hb1 HD HDD e2
    have r0 := HRR.out.cell (j := 0) rfl; have r1 := HRR.out.cell (j := 1) rfl; have r2 := HRR.out.cell (j := 2) rfl; have r3 := HRR.out.frozen 0; have r4 := HRR.out.frozen 1; have r5 := HRR.out.frozen 2; have r6 := HRR.out.lt
    go_wp2_with fail
    refine bodyPost_ret (v := (.tuple #[.agg #[.int .i64 0, .bool false, .slice none 0 0], .int .i64 (-1), .int .i64 0])) (by simp [results, Try.results12, go_sem, *]) rfl ?_
    exact ⟨_, rfl, owX_nil _ _ _, by repeat' (first | (with_reducible exact HB.out) | (with_reducible refine Below.setCell ?_ ?_ _) | (with_reducible refine Below.alloc ?_ ?_ _) | (with_reducible refine Below.drew ?_) | (with_reducible refine bo_drewN _ ?_) | omega | (simp; done) | (simp; omega))⟩
  rintro z w1 ⟨rfl, hb1⟩
  have hl1 := (okRn_iff.1 hq).1.1
  have HDD : Hid (serveRaw d = (dr, da, db)) := by show _ = _; rw [HD.out, if_pos hq]
  replace HX := hide (HX.out.new hb1)
  replace HRR := hide (HRR.out.new hb1)
  replace HB := hide (bchain HB.out hb1)
  have hlr := HRR.out.lt
  clear hb1 HD hok
  have HQ := hide hq
  clear hq
  have x0 := HX.out.cell (j := 0) rfl; have x1 := HX.out.cell (j := 1) rfl; have x2 := HX.out.cell (j := 2) rfl; have x3 := HX.out.frozen 0; have x4 := HX.out.frozen 1; have x5 := HX.out.frozen 2; have x6 := HX.out.lt
  go_wp2_with fail
  refine (copy11 d _ _ (HR.out.new HB.out) HQ.out).mono ?_
  rintro z w2 ⟨vc, rfl, hox, hb2⟩
  obtain ⟨gl, vp, rfl, hrn⟩ := rnIs_new hox hl1
  replace HRR := hide (HRR.out.new hb2)
  replace HB := hide (bchain HB.out hb2)
  have hs2 := hb2.size
  clear hb2 hox x0 x1 x2 x3 x4 x5 x6 HX
  go_upto_region 4 with fail
  have hb3 : Below w2.heap.size w2 (w2.alloc (.cells #[.int .i64 d.turn, .bool d.given, .slice (some ⟨gl, 0, none⟩) d.ls.length vp] 26)) := (Below.refl _ _).alloc (Nat.le_refl _) _
  have HN := hide hrn
  clear hrn
  generalize w2.alloc (.cells #[.int .i64 d.turn, .bool d.given, .slice (some ⟨gl, 0, none⟩) d.ls.length vp] 26) = w3 at *
  replace HRR := hide (HRR.out.new hb3)
  replace HB := hide (bchain HB.out hb3)
  have hs3 := hb3.size
  clear hb3
  have hcall := serve1 d w2.heap.size w1.heap.size gl vp w3 HN.out HQ.out (by omega)
  have hlen := serveRaw_ls HQ.out
  rw [HDD.out] at hcall hlen
  dsimp only at hcall hlen
  clear HDD HN
  go_wp2_with fail
  refine hcall.mono ?_
  rintro z w4 ⟨rfl, hrn, hk⟩
  clear hcall
  have hbz := hk.2 w1.heap.size (Nat.le_refl _) hs2 (by omega)
  replace HRR := hide (HRR.out.kept (hbz.block _ (by omega)))
  replace HB := hide (HB.out.trans (hbz.mono (by omega)))
  have hs4 := hk.1
  have HO := hide hrn.owx
  have HT := hide hrn.row
  clear hrn hk hbz
  rw [hlen] at HO HT
  have hgt : w2.heap.size ≠ w.heap.size + 1 := by omega
  have t0 := HT.out.cell (j := 0) rfl; have t1 := HT.out.cell (j := 1) rfl; have t2 := HT.out.cell (j := 2) rfl; have t3 := HT.out.frozen 0; have t4 := HT.out.frozen 1; have t5 := HT.out.frozen 2; have t6 := HT.out.lt
  have r0 := HRR.out.cell (j := 0) rfl; have r1 := HRR.out.cell (j := 1) rfl; have r2 := HRR.out.cell (j := 2) rfl; have r3 := HRR.out.frozen 0; have r4 := HRR.out.frozen 1; have r5 := HRR.out.frozen 2; have r6 := HRR.out.lt
  go_wp2_with fail
  refine bodyPost_ret (v := (.tuple #[.agg #[.int .i64 dr.turn, .bool dr.given, .slice (some ⟨gl, 0, none⟩) d.ls.length vp], .int .i64 da, .int .i64 db])) (by simp [results, Try.results12, go_sem, *]) rfl ?_
  refine ⟨_, rfl, ?_, by repeat' (first | (with_reducible exact HB.out) | (with_reducible refine Below.setCell ?_ ?_ _) | (with_reducible refine Below.alloc ?_ ?_ _) | (with_reducible refine Below.drew ?_) | (with_reducible refine bo_drewN _ ?_) | omega | (simp; done) | (simp; omega))⟩
  refine (OwX.wide (lo := w1.heap.size) (hi := w4.heap.size) (lo' := w.heap.size) (hi' := w4.heap.size) ?_ (by omega) (Nat.le_refl _)).top
  (repeat' (first | (with_reducible exact HO.out) | (with_reducible refine OwX.far ?_ _ _ ?_) | (simp; done) | (simp; omega)))
end Go.Proofs.Yteojibdnphaooaa
