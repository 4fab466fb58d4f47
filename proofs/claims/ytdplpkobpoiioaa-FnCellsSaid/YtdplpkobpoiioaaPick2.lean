/- One pick in memory that is owned: the program's pick, whatever the number of the Thread. -/
import Derived.Test.YtdplpkobpoiioaaPick


namespace Go.Proofs.Ytdplpkobpoiioaa
open Go.RowKit
set_option linter.unusedSimpArgs false
set_option linter.unusedVariables false

theorem upd_d {m : Mm} {C' : List Int} {i : Nat} {p s n : Int} (hi : i < m.ths.length) : (m.upd C' i p s n).d = ⟨C', (m.ths.map Th.d).set i ⟨m.ths[i].st, p, s, n⟩⟩ := by
  unfold Mm.upd Mm.d
  rw [getD_get _ _ _ hi]
  simp [List.map_set, Th.d]

/-- What a pick comes to, when Thread i is there and not through. -/
theorem pickD_act {m : Mm} {i : Nat} (hi : i < m.ths.length) (hth : thru m.ths[i].d = false) : pickD m.d i = (act m.cells (m.ths[i].st.getD m.ths[i].pos.toNat ⟨0, 0, 0⟩) m.ths[i].pos m.ths[i].seen m.ths[i].won).map fun r => (m.upd r.1 i r.2.1 r.2.2.1 r.2.2.2).d := by
  have hr : rng 0 (i : Int) ((m.d.ths.length : Int) - 1) = true := by simp only [rng, Mm.d, List.length_map, decide_eq_true_eq]; omega
  have hg : m.d.ths[i]? = some m.ths[i].d := by simp [Mm.d, hi]
  simp only [pickD, hr, if_true, Int.toNat_natCast, hg, Option.bind_some, actTh, hth, Bool.false_eq_true, if_false]
  have hd : m.ths[i].d = ⟨m.ths[i].st, m.ths[i].pos, m.ths[i].seen, m.ths[i].won⟩ := rfl
  simp only [hd, Option.map_map]
  show Option.map _ (act m.cells _ _ _ _) = _
  congr 1
  funext r
  rw [upd_d hi]
  rfl
theorem pickD_thru {m : Mm} {i : Nat} (hi : i < m.ths.length) (hth : thru m.ths[i].d = true) : pickD m.d i = none := by
  have hg : m.d.ths[i]? = some m.ths[i].d := by simp [Mm.d, hi]
  simp only [pickD, Int.toNat_natCast, hg, Option.bind_some, actTh, hth, if_true, Option.map_none]
  split <;> rfl
theorem pickD_out {m : Mm} {i : Int} (h : rng 0 i ((m.ths.length : Int) - 1) = false) : pickD m.d i = none := by
  have : rng 0 i ((m.d.ths.length : Int) - 1) = false := by simpa [Mm.d] using h
  simp only [pickD, this, Bool.false_eq_true, if_false]

/-- Behind a pick: the answer, and the Memory in the same places. -/
def Picked (w w' : World) (lo hi : Nat) (m : Mm) (i : Int) (x : Ending) : Prop :=
  ∃ m' : Mm, x = .returned (.bool (pickR m.d i).2) ∧ m'.d = (pickR m.d i).1 ∧ m'.cv = m.cv ∧ m'.tv = m.tv ∧ OwnM w' lo hi m' ∧ Turn lo hi w w'
theorem picked_no {w w' : World} {lo hi : Nat} {m : Mm} {i : Int} (h : pickD m.d i = none) (ho : OwnM w' lo hi m) (ht : Turn lo hi w w') : Picked w w' lo hi m i (.returned (.bool false)) :=
  ⟨m, by simp [pickR, h], by simp [pickR, h], rfl, rfl, ho, ht⟩

set_option maxHeartbeats 2000000 in
theorem pickM (m : Mm) (lo hi : Nat) (i : Int) (w : World) (ho : OwnM w lo hi m) (hhi : hi ≤ w.heap.size) (hok : okM m.d = true) :
    Calls Try.prog 39 #[.agg #[m.cv, m.tv], .int .i64 i] w fun x w' => Picked w w' lo hi m i x := by
  obtain ⟨hl4, hl6⟩ := okM_len (C := m.cells) (T := m.ths) hok
  have hparts := okM_parts (C := m.cells) (T := m.ths.map Th.d) hok
  obtain ⟨ad, cap, hcv, _⟩ := owns_form ho.cel
  obtain ⟨ad', cap', htv, h2'⟩ := owns_form ho.ths.row
  have HO := hide ho; have HCV := hide hcv; have HTV := hide htv; have HOK := hide hok; have HP := hide hparts
  clear ho hok hparts
  rw [hcv, htv]
  clear hcv htv
  unfold maxLen at h2'
  obtain ⟨h2a, h2b⟩ := h2'
  cases hrg : rng 0 i ((m.ths.length : Int) - 1)
  · have V := hide (pickD_out hrg)
    go_enter Try.func39, Try.ntmps39
    go_wp2_with (go_at_call 58; refine (within1 _ _ _ _).mono ?_; rw [hrg]; rintro x w' ⟨rfl, rfl⟩)
    go_ret
    exact picked_no V.out (HO.out.new ((by repeat' (first | (with_reducible exact Below.refl _ _) | (with_reducible refine Below.drew ?_) | (with_reducible refine bo_drewN _ ?_) | (with_reducible refine bo_alloc ?_ _) | (refine bchain ?_ (by with_reducible assumption)) | (with_reducible refine Below.setCell ?_ ?_ _) | go_size)))) (turn_new ((by repeat' (first | (with_reducible exact Below.refl _ _) | (with_reducible refine Below.drew ?_) | (with_reducible refine bo_drewN _ ?_) | (with_reducible refine bo_alloc ?_ _) | (refine bchain ?_ (by with_reducible assumption)) | (with_reducible refine Below.setCell ?_ ?_ _) | go_size))) _ _)
  · have hi0 : 0 ≤ i ∧ i ≤ (m.ths.length : Int) - 1 := by simpa [rng] using hrg
    obtain ⟨i, rfl⟩ := Int.eq_ofNat_of_zero_le hi0.1
    have hlt : i < m.ths.length := by omega
    obtain ⟨g, capT, etv, etb, glo, glt, _, gcap, gcell, gfr⟩ := owns_open HO.out.ths.row (by omega)
    have e' := etv
    rw [HTV.out] at e'
    simp only [Value.slice.injEq] at e'
    obtain ⟨rfl, _, rfl⟩ := e'
    obtain ⟨s0, s1, s2, s3⟩ := tv_get m.ths i hlt
    have t0 := gcell _ _ s0; have t1 := gcell _ _ s1; have t2 := gcell _ _ s2; have t3 := gcell _ _ s3
    have hst := HO.out.ths.st _ (List.getElem_mem hlt)
    obtain ⟨ads, caps, hsv, hsl⟩ := owns_form hst
    rw [hsv] at t0
    have hokt := HP.out.2.2.2 _ (List.mem_map_of_mem (List.getElem_mem hlt))
    obtain ⟨w0, w1, n0, n1, p0, p1, hl20, hall⟩ := okTh_rng hokt
    have hzg : g ≠ w.heap.size := by omega
    clear s0 s1 s2 s3 gcell gfr hokt hi0
    have HST := hide hst; have HSV := hide hsv; have HAL := hide hall
    clear hst hsv hall
    have hcall := through1 m.ths[i].d m.ths[i].sv
    cases hth : thru m.ths[i].d
    · have V := hide (pickD_act hlt hth)
      have hpos : m.ths[i].pos.toNat < m.ths[i].st.length := by
        have h1 : m.ths[i].pos ≠ (m.ths[i].st.length : Int) := fun e => by simp [thru, Th.d, e] at hth
        have h2 : 0 ≤ m.ths[i].pos := p0
        have h3 : m.ths[i].pos ≤ (m.ths[i].st.length : Int) := p1
        omega
      obtain ⟨q, hq⟩ : ∃ q : Nat, m.ths[i].pos = q := ⟨m.ths[i].pos.toNat, by have h2 : 0 ≤ m.ths[i].pos := p0; omega⟩
      have hql : q < m.ths[i].st.length := by omega
      obtain ⟨gs, capS, es, esb, _, gslt, _, _, scell, _⟩ := owns_open HST.out (by omega)
      obtain ⟨x0, x1, x2⟩ := sv_get m.ths[i].st q hql
      have y0 := scell _ _ x0; have y1 := scell _ _ x1; have y2 := scell _ _ x2
      have e2 := es
      rw [HSV.out] at e2
      simp only [Value.slice.injEq] at e2
      obtain ⟨rfl, _, rfl⟩ := e2
      have hstep : okSt m.ths[i].st[q] = true := List.all_eq_true.1 HAL.out _ (List.getElem_mem hql)
      have hgetD : m.ths[i].st.getD m.ths[i].pos.toNat ⟨0, 0, 0⟩ = m.ths[i].st[q] := by rw [hq, Int.toNat_natCast]; exact getD_get _ _ _ hql
      have hl20' : (m.ths[i].st.length : Int) ≤ 20 := hl20
      have HCALL : Hid (∀ W, Below w.heap.size w W → Calls Try.prog 60 #[.pointer (some ⟨g, i * 4, none⟩), .agg #[.int .i64 m.ths[i].st[q].k, .int .i64 m.ths[i].st[q].c, .int .i64 m.ths[i].st[q].a], .slice ad m.cells.length cap] W fun x w' => Picked W w' lo hi m i x) := fun W hW => by
        have hc := doThread m lo hi i hlt m.ths[i].st[q] g cap' W (HO.out.new hW) (by have := hW.size; omega) (by omega) hstep HP.out.2.2.1 HTV.out ⟨w0, w1⟩ ⟨n0, n1⟩ ⟨p0, by omega⟩
        rw [HCV.out] at hc
        refine hc.mono fun x w' ⟨h1, h2⟩ => ?_
        have hv := V.out
        rw [hgetD] at hv
        cases hact : act m.cells m.ths[i].st[q] m.ths[i].pos m.ths[i].seen m.ths[i].won with
        | none =>
          simp only [hact, Option.map_none] at h1 hv
          obtain ⟨rfl, h1⟩ := h1
          exact picked_no hv h1 h2
        | some r =>
          simp only [hact, Option.map_some] at h1 hv
          obtain ⟨rfl, h1⟩ := h1
          exact ⟨m.upd r.1 i r.2.1 r.2.2.1 r.2.2.2, by simp only [pickR, hv], by simp only [pickR, hv], rfl, rfl, h1, h2⟩
      rw [hq] at t1
      have hzs : gs ≠ w.heap.size := by omega
      clear hcall scell x0 x1 x2 hstep hgetD V w0 w1 n0 n1 p0 p1 hl20 es esb etv etb
      have hq0 : (0 : Int) ≤ (q : Int) := by omega
      have hq1 : (q : Int) < (m.ths[i].st.length : Int) := by omega
      have HQ := hide hq
      clear hq
      go_enter Try.func39, Try.ntmps39
      go_wp2_with (go_at_call 58; refine (within1 _ _ _ _).mono ?_; rw [hrg]; rintro x w' ⟨rfl, rfl⟩)
      have hc := through1 m.ths[i].d m.ths[i].sv _ ((reads_of_owns HST.out).alloc (.cells #[.slice ad m.cells.length cap, .slice (some ⟨g, 0, none⟩) m.ths.length cap'] 27))
      have hdp : m.ths[i].d.pos = (q : Int) := HQ.out
      rw [HSV.out, hth, hdp] at hc
      clear hdp
      refine hc.mono ?_
      clear hc
      rintro x w2 ⟨rfl, hb2⟩
      obtain ⟨hx, hy, hz⟩ := box2 hb2
      have x0 : w2.cell? ⟨w.heap.size, 0, none⟩ = some (.slice ad m.cells.length cap) := hx 0
      have x1 : w2.cell? ⟨w.heap.size, 1, none⟩ = some (.slice (some ⟨g, 0, none⟩) m.ths.length cap') := hx 1
      have hbw : Below w.heap.size w w2 := (by repeat' (first | (with_reducible exact Below.refl _ _) | (with_reducible refine Below.drew ?_) | (with_reducible refine bo_drewN _ ?_) | (with_reducible refine bo_alloc ?_ _) | (refine bchain ?_ (by with_reducible assumption)) | (with_reducible refine Below.setCell ?_ ?_ _) | go_size))
      have z0 := (hbw.cell (p := ⟨g, i * 4, none⟩) glt).trans t0
      have z1 := (hbw.cell (p := ⟨g, i * 4 + 1, none⟩) glt).trans t1
      have v0 := (hbw.cell (p := ⟨gs, q * 3, none⟩) gslt).trans y0
      have v1 := (hbw.cell (p := ⟨gs, q * 3 + 1, none⟩) gslt).trans y1
      have v2 := (hbw.cell (p := ⟨gs, q * 3 + 2, none⟩) gslt).trans y2
      clear hx hb2 hy
      go_wp2_with fail
      go_region_with (go_at_call 60; refine (HCALL.out _ (by first | exact hbw | exact hbw.drew | exact bo_drewN _ hbw)).mono ?_; rintro x w3 ⟨m', rfl, hd, hcv', htv', ho3, ht3⟩)
      all_goals
        go_wp2_with fail
        go_ret
        exact ⟨m', rfl, hd, hcv', htv', ho3, (turn_new (by first | exact hbw | exact hbw.drew | exact bo_drewN _ hbw) lo hi).trans ht3⟩
    · have V := hide (pickD_thru hlt hth)
      go_enter Try.func39, Try.ntmps39
      go_wp2_with (go_at_call 58; refine (within1 _ _ _ _).mono ?_; rw [hrg]; rintro x w' ⟨rfl, rfl⟩)
      have hc := through1 m.ths[i].d m.ths[i].sv _ ((reads_of_owns HST.out).alloc (.cells #[.slice ad m.cells.length cap, .slice (some ⟨g, 0, none⟩) m.ths.length cap'] 27))
      rw [HSV.out, hth] at hc
      refine hc.mono ?_
      rintro x w2 ⟨rfl, hb2⟩
      go_wp2_with fail
      go_ret
      exact picked_no V.out (HO.out.new ((by repeat' (first | (with_reducible exact Below.refl _ _) | (with_reducible refine Below.drew ?_) | (with_reducible refine bo_drewN _ ?_) | (with_reducible refine bo_alloc ?_ _) | (refine bchain ?_ (by with_reducible assumption)) | (with_reducible refine Below.setCell ?_ ?_ _) | go_size)))) (turn_new ((by repeat' (first | (with_reducible exact Below.refl _ _) | (with_reducible refine Below.drew ?_) | (with_reducible refine bo_drewN _ ?_) | (with_reducible refine bo_alloc ?_ _) | (refine bchain ?_ (by with_reducible assumption)) | (with_reducible refine Below.setCell ?_ ?_ _) | go_size))) _ _)
end Go.Proofs.Ytdplpkobpoiioaa
