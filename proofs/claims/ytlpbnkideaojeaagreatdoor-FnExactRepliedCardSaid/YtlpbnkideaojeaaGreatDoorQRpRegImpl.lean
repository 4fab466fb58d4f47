/- Lemmas. -/
import Derived.Test.YtlpbnkideaojeaaGreatDoorQRpG11
namespace Go.Proofs.YtlpbnkideaojeaaGreatDoor
open Go.RowKit
set_option maxRecDepth 100000
set_option linter.unusedSimpArgs false
set_option linter.unusedVariables false
theorem aaz (d : bZ) (v : Value) (w : World) (hr : aT bE w v d.es) : Calls Tryz.prog 90 #[.agg #[.int .i64 d.lim, .int .i64 d.top, v]] w fun x w' => x = .returned (.bool (fE d)) ∧ Below w.heap.size w w' := by
 obtain ⟨ad, cap, rfl, h1, h2⟩ := hr.form
 have HR := hide hr
 clear hr
 go_enter Tryz.func90, Tryz.ntmps90
 go_wp2_with fail
 refine (IY d _ _ (HR.out.new (by repeat' (first | (with_reducible exact Below.refl _ _) | (with_reducible refine Below.drew ?_) | (with_reducible refine ay _ ?_) | (with_reducible refine aA ?_ _) | (refine ah ?_ (by with_reducible assumption)) | (with_reducible refine Below.setCell ?_ ?_ _) | go_size)))).mono ?_; rintro z w1 ⟨rfl, hb1⟩
 go_wp2_with fail
 go_ret
 exact ⟨rfl, (by repeat' (first | (with_reducible exact Below.refl _ _) | (with_reducible refine Below.drew ?_) | (with_reducible refine ay _ ?_) | (with_reducible refine aA ?_ _) | (refine ah ?_ (by with_reducible assumption)) | (with_reducible refine Below.setCell ?_ ?_ _) | go_size))⟩
set_option maxHeartbeats 2000000 in
theorem aa4 (d : bZ) (v : Value) (id : Int) (iN : Int) (w : World) (hr : aT bE w v d.es) :
  Calls Tryz.prog 102 #[.agg #[.int .i64 d.lim, .int .i64 d.top, v], .int .i64 id, .int .i64 iN] w fun x w' => ∃ v', x = .returned (.tuple #[.agg #[.int .i64 (wD d id iN).1.lim, .int .i64 (wD d id iN).1.top, v'], .bool (wD d id iN).2]) ∧ aD bE w' w.heap.size w'.heap.size v' (wD d id iN).1.es ∧ Below w.heap.size w w' := by
 obtain ⟨ad, cap, rfl, h1, h2⟩ := hr.form
 have HR := hide hr
 clear hr
 have hok := fun w h => IY d (.slice ad d.es.length cap) w h
 obtain ⟨⟨dr, dk⟩, hD⟩ : ∃ y, wD d id iN = y := ⟨_, rfl⟩
 have HD : Hid ((dr, dk) = if fE d = true then gq d id iN else (⟨0, 0, []⟩, false)) := by show _ = _; rw [← hD]; rfl
 rw [hD]
 dsimp only
 clear hD
 go_enter Tryz.func102, Tryz.ntmps102
 go_wp2_with fail
 obtain ⟨V, hV⟩ : ∃ V, (w.alloc (.cells #[.int .i64 d.lim, .int .i64 d.top, .slice ad d.es.length cap] 34)).alloc (.cells #[.int .i64 0, .int .i64 0, .slice none 0 0] 34) = V := ⟨_, rfl⟩
 have HB : Hid (Below w.heap.size w V) := by show Below _ _ _; rw [← hV]; exact aA ((Below.refl _ _).alloc (Nat.le_refl _) _) _
 have HX : Hid (aj V w.heap.size 34 [.int .i64 d.lim, .int .i64 d.top, .slice ad d.es.length cap]) := by show aj _ _ _ _; rw [← hV]; exact (aB w 34 [.int .i64 d.lim, .int .i64 d.top, .slice ad d.es.length cap]).alloc _
 have HRR : Hid (aj V (w.heap.size + 1) 34 [.int .i64 0, .int .i64 0, .slice none 0 0]) := by show aj _ _ _ _; rw [← hV]; simpa using aB (w.alloc (.cells #[.int .i64 d.lim, .int .i64 d.top, .slice ad d.es.length cap] 34)) 34 [.int .i64 0, .int .i64 0, .slice none 0 0]
 rw [hV]
 clear hV
 refine (hok _ (HR.out.new HB.out)).mono ?_
 cases hq : fE d
 ·rintro z w1 ⟨rfl, hb1⟩
  have dL : Hid ((dr, dk) = ((⟨0, 0, []⟩ : bZ), false)) := by show _ = _; rw [HD.out, if_neg (by rw [hq]; simp)]
  obtain ⟨rfl, rfl⟩ := Prod.mk.inj dL.out
  replace HRR := hide (HRR.out.new hb1)
  replace HB := hide (ah HB.out hb1)
  clear hb1 HD dL
  have r0 := HRR.out.cell (j := 0) rfl; have r1 := HRR.out.cell (j := 1) rfl; have r2 := HRR.out.cell (j := 2) rfl; have r3 := HRR.out.frozen 0; have r4 := HRR.out.frozen 1; have r5 := HRR.out.frozen 2; have r6 := HRR.out.lt
  go_wp2_with fail
  refine bodyPost_ret (v := (.tuple #[.agg #[.int .i64 0, .int .i64 0, .slice none 0 0], .bool false])) (by simp [results, Tryz.results102, go_sem, *]) rfl ?_
  exact ⟨_, rfl, Vz _ _ _, by repeat' (first | (with_reducible exact HB.out) | (with_reducible refine Below.setCell ?_ ?_ _) | (with_reducible refine Below.alloc ?_ ?_ _) | (with_reducible refine Below.drew ?_) | (with_reducible refine ay _ ?_) | omega | (simp; done) | (simp; omega))⟩
 rintro z w1 ⟨rfl, hb1⟩
 have mG := (qw.1 hq).2.2.1
 have dL : Hid ((dr, dk) = gq d id iN) := by show _ = _; rw [HD.out, if_pos hq]
 replace HX := hide (HX.out.new hb1)
 replace HRR := hide (HRR.out.new hb1)
 replace HB := hide (ah HB.out hb1)
 clear hb1 HD hq hok
 have x0 := HX.out.cell (j := 0) rfl; have x1 := HX.out.cell (j := 1) rfl; have x2 := HX.out.cell (j := 2) rfl; have x3 := HX.out.frozen 0; have x4 := HX.out.frozen 1; have x5 := HX.out.frozen 2; have x6 := HX.out.lt
 go_wp2_with fail
 refine (KI d _ _ (HR.out.new HB.out) mG).mono ?_
 rintro z w2 ⟨v2, rfl, ho2, hb2⟩
 obtain ⟨a2, p2, rfl, _⟩ := bW ho2
 have hlr := HRR.out.lt
 replace HRR := hide (HRR.out.new hb2)
 replace HB := hide (ah HB.out hb2)
 have hs2 := hb2.size
 clear hb2 x0 x1 x2 x3 x4 x5 x6 HX
 go_upto_region 4 with fail
 obtain ⟨w3, hw3⟩ : ∃ W, w2.alloc (.cells #[.int .i64 d.lim, .int .i64 d.top, .slice a2 d.es.length p2] 34) = W := ⟨_, rfl⟩
 have hb3 : Below w2.heap.size w2 w3 := by rw [← hw3]; exact (Below.refl _ _).alloc (Nat.le_refl _) _
 have HT : Hid (aj w3 w2.heap.size 34 [.int .i64 d.lim, .int .i64 d.top, .slice a2 d.es.length p2]) := by show aj _ _ _ _; rw [← hw3]; exact aB w2 34 [.int .i64 d.lim, .int .i64 d.top, .slice a2 d.es.length p2]
 have HO : Hid (w3.ownsRow w1.heap.size 94 2 (.slice a2 d.es.length p2) d.es.length (ev d.es)) := aX ho2 hb3
 have Bj : Hid (∀ q, (Value.slice a2 d.es.length p2).ownBlock = some q → w1.heap.size ≤ q ∧ q < w2.heap.size) := fun q hq => ho2.lt q hq
 have Fv : Hid (∀ q, (Value.slice a2 d.es.length p2).ownBlock = some q → w.heap.size + 2 ≤ q) := fun q hq => by have := (Bj.out q hq).1; omega
 rw [hw3]
 clear hw3 ho2
 replace HRR := hide (HRR.out.new hb3)
 replace HB := hide (ah HB.out hb3)
 have hs3 := hb3.size
 clear hb3
 have hgt : w2.heap.size ≠ w.heap.size + 1 := by omega
 have t0 := HT.out.cell (j := 0) rfl; have t1 := HT.out.cell (j := 1) rfl; have t2 := HT.out.cell (j := 2) rfl; have t3 := HT.out.frozen 0; have t4 := HT.out.frozen 1; have t5 := HT.out.frozen 2; have t6 := HT.out.lt
 go_wp2_with fail
 refine (IZ d id _ _ (Ik (eP HO.out)) mG).mono ?_; rintro z w4 ⟨rfl, hb4⟩
 replace HT := hide (HT.out.new hb4)
 replace HRR := hide (HRR.out.new hb4)
 replace HO := hide (aX HO.out hb4)
 replace HB := hide (ah HB.out hb4)
 have hs4 := hb4.size
 clear hb4 t0 t1 t2 t3 t4 t5 t6
 have t0 := HT.out.cell (j := 0) rfl; have t1 := HT.out.cell (j := 1) rfl; have t2 := HT.out.cell (j := 2) rfl; have t3 := HT.out.frozen 0; have t4 := HT.out.frozen 1; have t5 := HT.out.frozen 2; have t6 := HT.out.lt
 have r0 := HRR.out.cell (j := 0) rfl; have r1 := HRR.out.cell (j := 1) rfl; have r2 := HRR.out.cell (j := 2) rfl; have r3 := HRR.out.frozen 0; have r4 := HRR.out.frozen 1; have r5 := HRR.out.frozen 2; have r6 := HRR.out.lt
 cases hq : dI d.es id with
 | none =>
  have hI : iF d.es id = -1 := by unfold iF; rw [hq]
  rw [hI]
  have HE : Hid ((dr, dk) = (d, false)) := by show _ = _; rw [dL.out, Dm hq]
  obtain ⟨rfl, rfl⟩ := Prod.mk.inj HE.out
  clear HE dL hI hq
  go_wp2_with fail
  refine bodyPost_ret (v := (.tuple #[.agg #[.int .i64 dr.lim, .int .i64 dr.top, .slice a2 dr.es.length p2], .bool false])) (by simp [results, Tryz.results102, go_sem, *]) rfl ?_
  exact ⟨_, rfl, FL (eG (base := w1.heap.size) (by repeat' (first | (with_reducible exact HO.out) | (with_reducible refine iq _ ?_ Fv.out _ _ ?_) | (with_reducible refine World.ownsRow.alloc ?_ _) | (simp; done) | (simp; omega))) (fun q hq => by have := Fv.out q hq; omega)), by repeat' (first | (with_reducible exact HB.out) | (with_reducible refine Below.setCell ?_ ?_ _) | (with_reducible refine Below.alloc ?_ ?_ _) | (with_reducible refine Below.drew ?_) | (with_reducible refine ay _ ?_) | omega | (simp; done) | (simp; omega))⟩
 | some k =>
  obtain ⟨hk, _, _⟩ := mH hq
  have hI : iF d.es id = k := AJ hq
  rw [hI]
  have Ef : Hid (∀ s, (ev d.es).set (k * 2 + 1) (.int .i64 s) = ev (d.es.set k ⟨d.es[k].id, s⟩)) := Od d.es k hk
  obtain ⟨AL, wR⟩ := Og d.es k hk
  obtain ⟨e, he⟩ : ∃ e, d.es[k] = e := ⟨_, rfl⟩
  obtain ⟨n, b, hn⟩ : ∃ n b, fQ e.state iN = (n, b) := ⟨_, _, rfl⟩
  have HE : Hid ((dr, dk) = (⟨d.lim, d.top, d.es.set k ⟨e.id, n⟩⟩, b)) := by show _ = _; rw [dL.out, zU hq hk, he, hn]
  rw [he] at AL wR Ef
  obtain ⟨rfl, rfl⟩ := Prod.mk.inj HE.out
  have hnx := fun w => ND e.state iN w
  rw [hn] at hnx
  dsimp only at hnx
  clear HE dL hI hq hn he
  obtain ⟨gb, Yi, hsl, hg0, hg1, hg2, _, _, hc, hf⟩ := qx HO.out (by omega)
  simp only [Value.slice.injEq] at hsl
  obtain ⟨rfl, -, -⟩ := hsl
  have c1 := hc _ _ wR
  have f1 := hf (k * 2 + 1)
  have hgb := Bj.out gb hg0
  have hgg : gb ≠ w2.heap.size := by omega
  have hgr : gb ≠ w.heap.size + 1 := by omega
  have hgl : gb < w4.heap.size := by omega
  have Il := hide hg0
  clear hc hf AL wR hg0
  go_wp2_with fail
  refine (hnx _).mono ?_; rintro z w5 ⟨rfl, hb5⟩
  have c1' := (hb5.cell (p := ⟨gb, k * 2 + 1, none⟩) hgl).trans c1
  have f1' := (hb5.frozen (p := ⟨gb, k * 2 + 1, none⟩) hgl).trans f1
  replace HT := hide (HT.out.new hb5)
  replace HRR := hide (HRR.out.new hb5)
  replace HO := hide (aX HO.out hb5)
  replace HB := hide (ah HB.out hb5)
  have hs5 := hb5.size
  have hgl5 : gb < w5.heap.size := by omega
  clear hb5 t0 t1 t2 t3 t4 t5 t6 r0 r1 r2 r3 r4 r5 r6 c1 f1 hnx
  have t0 := HT.out.cell (j := 0) rfl; have t1 := HT.out.cell (j := 1) rfl; have t2 := HT.out.cell (j := 2) rfl; have t3 := HT.out.frozen 0; have t4 := HT.out.frozen 1; have t5 := HT.out.frozen 2; have t6 := HT.out.lt
  go_upto_region 9 with fail
  obtain ⟨W6, za⟩ : ∃ W, w5.setCell ⟨gb, k * 2 + 1, none⟩ (.int .i64 n) = W := ⟨_, rfl⟩
  have yU := mI HO.out Il.out (k * 2 + 1) (.int .i64 n)
  rw [Ef.out n, za] at yU
  rw [za]
  replace HT : Hid (aj W6 w2.heap.size 34 [.int .i64 d.lim, .int .i64 d.top, .slice (some ⟨gb, 0, none⟩) d.es.length p2]) := by show aj _ _ _ _; rw [← za]; exact HT.out.far _ _ hgg
  replace HRR : Hid (aj W6 (w.heap.size + 1) 34 [.int .i64 0, .int .i64 0, .slice none 0 0]) := by show aj _ _ _ _; rw [← za]; exact HRR.out.far _ _ hgr
  replace HB : Hid (Below w.heap.size w W6) := by show Below _ _ _; rw [← za]; exact HB.out.setCell (by simp; omega) _
  have wT := hide yU
  clear za yU t0 t1 t2 t3 t4 t5 t6 c1' f1'
  have t0 := HT.out.cell (j := 0) rfl; have t1 := HT.out.cell (j := 1) rfl; have t2 := HT.out.cell (j := 2) rfl; have t3 := HT.out.frozen 0; have t4 := HT.out.frozen 1; have t5 := HT.out.frozen 2; have t6 := HT.out.lt
  have r0 := HRR.out.cell (j := 0) rfl; have r1 := HRR.out.cell (j := 1) rfl; have r2 := HRR.out.cell (j := 2) rfl; have r3 := HRR.out.frozen 0; have r4 := HRR.out.frozen 1; have r5 := HRR.out.frozen 2; have r6 := HRR.out.lt
  go_wp2_with fail
  refine bodyPost_ret (v := (.tuple #[.agg #[.int .i64 d.lim, .int .i64 d.top, .slice (some ⟨gb, 0, none⟩) d.es.length p2], .bool dk])) (by simp [results, Tryz.results102, go_sem, *]) rfl ?_
  refine ⟨_, rfl, ?_, by repeat' (first | (with_reducible exact HB.out) | (with_reducible refine Below.setCell ?_ ?_ _) | (with_reducible refine Below.alloc ?_ ?_ _) | (with_reducible refine Below.drew ?_) | (with_reducible refine ay _ ?_) | omega | (simp; done) | (simp; omega))⟩
  refine FL (eG (base := w1.heap.size) ?_ (fun q hq => by have := Fv.out q hq; omega))
  simp only [List.length_set]
  exact (by repeat' (first | (with_reducible exact wT.out) | (with_reducible refine iq _ ?_ Fv.out _ _ ?_) | (with_reducible refine World.ownsRow.alloc ?_ _) | (simp; done) | (simp; omega)))
end Go.Proofs.YtlpbnkideaojeaaGreatDoor
