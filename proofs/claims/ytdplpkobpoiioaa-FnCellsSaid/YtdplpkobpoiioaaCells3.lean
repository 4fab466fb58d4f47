/- Is each Thread through, and what was Won in all: the program's words and the model's. -/
import Derived.Test.YtdplpkobpoiioaaCellsOk2


namespace Go.Proofs.Ytdplpkobpoiioaa
open Go.RowKit
set_option linter.unusedSimpArgs false
set_option linter.unusedVariables false

def thru (d : DTh) : Bool := d.pos == (d.st.length : Int)
def thruM (D : DMem) : Bool := okM D && D.ths.all thru
def sumW : List DTh → Int
  | [] => 0
  | d :: T => d.won + sumW T
def winsM (D : DMem) : Int := if okM D then sumW D.ths else -1
theorem sumW_app (A B : List DTh) : sumW (A ++ B) = sumW A + sumW B := by
  induction A with
  | nil => simp [sumW]
  | cons a A ih => simp [sumW, ih]; omega
theorem sumW_take (T : List Th) (k : Nat) (h : k < T.length) : sumW ((T.map Th.d).take (k + 1)) = sumW ((T.map Th.d).take k) + T[k].won := by
  rw [List.take_succ_eq_append_getElem (by simpa using h), sumW_app]; simp [sumW, Th.d]
theorem okTh_rng {d : DTh} (h : okTh d = true) : 0 ≤ d.won ∧ d.won ≤ 1000000 ∧ 0 ≤ d.seen ∧ d.seen ≤ 1000000 ∧ 0 ≤ d.pos ∧ d.pos ≤ d.st.length ∧ (d.st.length : Int) ≤ 20 ∧ d.st.all okSt = true := by
  simp only [okTh, rng, Bool.and_eq_true, decide_eq_true_eq] at h
  obtain ⟨h1, h2⟩ := h
  refine ⟨?_, ?_, ?_, ?_, ?_, ?_, ?_, h2⟩ <;> omega
theorem okM_th {C : List Int} {T : List Th} (h : okM ⟨C, T.map Th.d⟩ = true) (k : Nat) (hk : k < T.length) : okTh T[k].d = true := by
  simp only [okM, Bool.and_eq_true] at h
  exact List.all_eq_true.1 h.2 _ (List.mem_map_of_mem (List.getElem_mem hk))
theorem okM_len {C : List Int} {T : List Th} (h : okM ⟨C, T.map Th.d⟩ = true) : (C.length : Int) = 4 ∧ (T.length : Int) ≤ 6 := by
  simp only [okM, Bool.and_eq_true, decide_eq_true_eq, List.length_map] at h; exact ⟨h.1.1.1, h.1.1.2⟩
theorem okM_cell {C : List Int} {T : List DTh} (h : okM ⟨C, T⟩ = true) (k : Nat) (hk : k < C.length) : 0 ≤ C[k] ∧ C[k] ≤ 1000000 := by
  simp only [okM, Bool.and_eq_true] at h
  have := List.all_eq_true.1 h.1.2 _ (List.getElem_mem hk)
  simpa [rng] using this
theorem sumW_bd : ∀ (T : List DTh), (∀ d ∈ T, 0 ≤ d.won ∧ d.won ≤ 1000000) → 0 ≤ sumW T ∧ sumW T ≤ T.length * 1000000
  | [], _ => by simp [sumW]
  | d :: T, h => by
    have h1 := h d List.mem_cons_self
    have h2 := sumW_bd T fun x hx => h x (List.mem_cons_of_mem _ hx)
    simp only [sumW, List.length_cons]; omega
theorem sumW_ok {C : List Int} {T : List Th} (h : okM ⟨C, T.map Th.d⟩ = true) (k : Nat) : 0 ≤ sumW ((T.map Th.d).take k) ∧ sumW ((T.map Th.d).take k) ≤ 6000000 := by
  have hl := (okM_len h).2
  have := sumW_bd ((T.map Th.d).take k) fun d hd => by
    obtain ⟨t, ht, rfl⟩ := List.mem_map.1 (List.mem_of_mem_take hd)
    obtain ⟨j, hj, rfl⟩ := List.getElem_of_mem ht
    have := okTh_rng (okM_th h j hj)
    omega
  have hl2 : ((T.map Th.d).take k).length ≤ T.length := by rw [List.length_take, List.length_map]; omega
  omega

theorem through1 (d : DTh) (v : Value) (w : World) (hr : Reads w v d.st.length 3 (sv d.st)) :
    Calls Try.prog 46 #[.agg #[v, .int .i64 d.pos, .int .i64 d.seen, .int .i64 d.won]] w fun x w' => x = .returned (.bool (thru d)) ∧ Below w.heap.size w w' := by
  obtain ⟨st, p, s, n⟩ := d
  simp only at hr ⊢
  obtain ⟨hl, ad, cap, rfl, h1, h2, h3⟩ := hr
  clear h3
  unfold maxLen at h2
  cases hb : (p == (st.length : Int))
  · have V : Hid (thru ⟨st, p, s, n⟩ = false) := hb
    go_enter Try.func46, Try.ntmps46
    go_wp2_with fail
    go_ret
    exact ⟨by rw [V.out]; rfl, (by repeat' (first | (with_reducible exact Below.refl _ _) | (with_reducible refine Below.drew ?_) | (with_reducible refine bo_drewN _ ?_) | (with_reducible refine bo_alloc ?_ _) | (refine bchain ?_ (by with_reducible assumption)) | (with_reducible refine Below.setCell ?_ ?_ _) | go_size))⟩
  · have V : Hid (thru ⟨st, p, s, n⟩ = true) := hb
    go_enter Try.func46, Try.ntmps46
    go_wp2_with fail
    go_ret
    exact ⟨by rw [V.out]; rfl, (by repeat' (first | (with_reducible exact Below.refl _ _) | (with_reducible refine Below.drew ?_) | (with_reducible refine bo_drewN _ ?_) | (with_reducible refine bo_alloc ?_ _) | (refine bchain ?_ (by with_reducible assumption)) | (with_reducible refine Below.setCell ?_ ?_ _) | go_size))⟩


set_option maxHeartbeats 1000000 in
theorem implThrough (cv tv0 : Value) (cells : List Int) (T : List Th) (w : World) (hr : ReadM w ⟨cv, cells, tv0, T⟩) :
    Calls Try.prog 21 #[.agg #[cv, tv0]] w fun x w' => x = .returned (.bool (thruM ⟨cells, T.map Th.d⟩)) ∧ Below w.heap.size w w' := by
  obtain ⟨ad, cap, hcv, _⟩ := hr.cel.2; obtain ⟨ad', cap', htv, h2'⟩ := hr.ths.row.2; have HR := hide hr; have H3' := hide hr.ths; clear hr; simp only at hcv htv HR ⊢; subst hcv htv
  have hT : T.length ≤ cap' ∧ cap' ≤ maxLen := ⟨h2'.1, h2'.2.1⟩
  unfold maxLen at hT
  clear h2'
  cases hok : okM ⟨cells, T.map Th.d⟩
  · have V : Hid (thruM ⟨cells, T.map Th.d⟩ = false) := by show _ = _; simp only [thruM, hok, Bool.false_and]
    go_enter Try.func21, Try.ntmps21
    go_wp2_with fail
    refine (implRight _ _ cells T _ (HR.out.cel.alloc _) (HR.out.ths.new ((by repeat' (first | (with_reducible exact Below.refl _ _) | (with_reducible refine Below.drew ?_) | (with_reducible refine bo_drewN _ ?_) | (with_reducible refine bo_alloc ?_ _) | (refine bchain ?_ (by with_reducible assumption)) | (with_reducible refine Below.setCell ?_ ?_ _) | go_size))))).mono ?_; rw [hok]; rintro x w1 ⟨rfl, hb1⟩
    go_wp2_with fail
    go_ret
    exact ⟨by rw [V.out]; rfl, (by repeat' (first | (with_reducible exact Below.refl _ _) | (with_reducible refine Below.drew ?_) | (with_reducible refine bo_drewN _ ?_) | (with_reducible refine bo_alloc ?_ _) | (refine bchain ?_ (by with_reducible assumption)) | (with_reducible refine Below.setCell ?_ ?_ _) | go_size))⟩
  · go_enter Try.func21, Try.ntmps21
    go_wp2_with fail
    refine (implRight _ _ cells T _ (HR.out.cel.alloc _) (HR.out.ths.new ((by repeat' (first | (with_reducible exact Below.refl _ _) | (with_reducible refine Below.drew ?_) | (with_reducible refine bo_drewN _ ?_) | (with_reducible refine bo_alloc ?_ _) | (refine bchain ?_ (by with_reducible assumption)) | (with_reducible refine Below.setCell ?_ ?_ _) | go_size))))).mono ?_; rw [hok]; rintro x w1 ⟨rfl, hb1⟩
    obtain ⟨hx, hy, hz⟩ := box2 hb1
    have x1 := hx 1
    simp at x1
    have HOK := hide hok
    have hbw : Below w.heap.size w w1 := (by repeat' (first | (with_reducible exact Below.refl _ _) | (with_reducible refine Below.drew ?_) | (with_reducible refine bo_drewN _ ?_) | (with_reducible refine bo_alloc ?_ _) | (refine bchain ?_ (by with_reducible assumption)) | (with_reducible refine Below.setCell ?_ ?_ _) | go_size))
    clear hx hok
    go_wp2_with fail
    go_loopw [11] (fun i wr => ∃ (k : Nat), i = .int .i64 k ∧ k ≤ T.length ∧ (∀ j (hj : j < T.length), j < k → thru T[j].d = true) ∧ Below w.heap.size w wr) (fun i _ => T.length - (intOf i).toNat)
    case atStart => exact ⟨0, rfl, Nat.zero_le _, fun j _ hj => absurd hj (Nat.not_lt_zero _), hbw⟩
    case round =>
      obtain ⟨k, rfl, hk, hall, hb⟩ := hrel
      have HA := hide hall
      clear hall
      have hsz := hb.size
      by_cases hlt : k < T.length
      · obtain ⟨sz0, ad1, cap1, et1, g1, g2, hrd⟩ := H3'.out.row; simp only [Value.slice.injEq] at et1; obtain ⟨rfl, _, rfl⟩ := et1; obtain ⟨b, o, rfl, hbw', hc⟩ := hrd (by omega); obtain ⟨s0, s1, s2, s3⟩ := tv_get T k hlt; have hrt := (H3'.out.st _ (List.getElem_mem hlt)).new hb; obtain ⟨t, htt⟩ : ∃ t, t = T[k] := ⟨_, rfl⟩; rw [← htt] at s0 s1 s2 s3 hrt; obtain ⟨ad0, cap0, hsv0, _⟩ := hrt.2; rw [hsv0] at s0 hrt; have c0 : World.cell? wr ⟨b, o + k * 4, none⟩ = some (.slice ad0 t.st.length cap0) := (by rw [hb.cell (p := ⟨b, o + k * 4, none⟩) hbw']; exact hc _ _ s0); have c1 : World.cell? wr ⟨b, o + k * 4 + 1, none⟩ = some (.int .i64 t.pos) := (by rw [hb.cell (p := ⟨b, o + k * 4 + 1, none⟩) hbw']; exact hc _ _ s1); have c2 : World.cell? wr ⟨b, o + k * 4 + 2, none⟩ = some (.int .i64 t.seen) := (by rw [hb.cell (p := ⟨b, o + k * 4 + 2, none⟩) hbw']; exact hc _ _ s2); have c3 : World.cell? wr ⟨b, o + k * 4 + 3, none⟩ = some (.int .i64 t.won) := (by rw [hb.cell (p := ⟨b, o + k * 4 + 3, none⟩) hbw']; exact hc _ _ s3); have HRT := hide hrt; have HTT := hide htt; clear hc s0 s1 s2 s3 hrt hsv0 hrd htt
        have hbne : b < wr.heap.size := by omega
        cases hth : thru t.d
        · have V : Hid (thruM ⟨cells, T.map Th.d⟩ = false) := by
            show _ = _
            simp only [thruM, all_no (p := thru) k (show k < (T.map Th.d).length by simpa using hlt) (by simpa [← HTT.out] using hth), Bool.and_false]
          go_wp2_with fail
          refine (through1 t.d _ _ (HRT.out.alloc _)).mono ?_; rw [hth]; rintro x w2 ⟨rfl, hb2⟩
          go_wp2_with fail
          go_ret
          exact ⟨by rw [V.out]; rfl, (by repeat' (first | (with_reducible exact Below.refl _ _) | (with_reducible refine Below.drew ?_) | (with_reducible refine bo_drewN _ ?_) | (with_reducible refine bo_alloc ?_ _) | (refine bchain ?_ (by with_reducible assumption)) | (with_reducible refine Below.setCell ?_ ?_ _) | go_size))⟩
        · have HK := hide hth
          go_wp2_with fail
          refine (through1 t.d _ _ (HRT.out.alloc _)).mono ?_; rw [hth]; rintro x w2 ⟨rfl, hb2⟩
          go_wp2_with fail
          go_roundw
          case rel => exact ⟨k + 1, by go_num, by omega, fun j hj hjk => by
            by_cases hje : j = k
            · subst hje; rw [← HTT.out]; exact HK.out
            · exact HA.out j hj (by omega), (by repeat' (first | (with_reducible exact Below.refl _ _) | (with_reducible refine Below.drew ?_) | (with_reducible refine bo_drewN _ ?_) | (with_reducible refine bo_alloc ?_ _) | (refine bchain ?_ (by with_reducible assumption)) | (with_reducible refine Below.setCell ?_ ?_ _) | go_size))⟩
          case measure => simp [intOf]; omega
      · have V : Hid (thruM ⟨cells, T.map Th.d⟩ = true) := by
          show _ = _
          simp only [thruM, HOK.out, all_yes (p := thru) (L := T.map Th.d) fun j hj => by simpa using HA.out j (by simpa using hj) (by have : j < T.length := (by simpa using hj); omega), Bool.and_self]
        go_wp2_with fail
        go_ret
        exact ⟨by rw [V.out]; rfl, hb⟩

set_option maxHeartbeats 1000000 in
theorem specThrough (cv tv0 : Value) (cells : List Int) (T : List Th) (w : World) (hr : ReadM w ⟨cv, cells, tv0, T⟩) :
    Calls Try.prog 22 #[.agg #[cv, tv0]] w fun x w' => x = .returned (.bool (thruM ⟨cells, T.map Th.d⟩)) ∧ Below w.heap.size w w' := by
  obtain ⟨ad, cap, hcv, _⟩ := hr.cel.2; obtain ⟨ad', cap', htv, h2'⟩ := hr.ths.row.2; have HR := hide hr; have H3' := hide hr.ths; clear hr; simp only at hcv htv HR ⊢; subst hcv htv
  have hT : T.length ≤ cap' ∧ cap' ≤ maxLen := ⟨h2'.1, h2'.2.1⟩
  unfold maxLen at hT
  clear h2'
  cases hok : okM ⟨cells, T.map Th.d⟩
  · have V : Hid (thruM ⟨cells, T.map Th.d⟩ = false) := by show _ = _; simp only [thruM, hok, Bool.false_and]
    go_enter Try.func22, Try.ntmps22
    go_wp2_with fail
    refine (specOkM _ _ cells T _ (HR.out.cel.alloc _) (HR.out.ths.new ((by repeat' (first | (with_reducible exact Below.refl _ _) | (with_reducible refine Below.drew ?_) | (with_reducible refine bo_drewN _ ?_) | (with_reducible refine bo_alloc ?_ _) | (refine bchain ?_ (by with_reducible assumption)) | (with_reducible refine Below.setCell ?_ ?_ _) | go_size))))).mono ?_; rw [hok]; rintro x w1 ⟨rfl, hb1⟩
    go_wp2_with fail
    go_ret
    exact ⟨by rw [V.out]; rfl, (by repeat' (first | (with_reducible exact Below.refl _ _) | (with_reducible refine Below.drew ?_) | (with_reducible refine bo_drewN _ ?_) | (with_reducible refine bo_alloc ?_ _) | (refine bchain ?_ (by with_reducible assumption)) | (with_reducible refine Below.setCell ?_ ?_ _) | go_size))⟩
  · go_enter Try.func22, Try.ntmps22
    go_wp2_with fail
    refine (specOkM _ _ cells T _ (HR.out.cel.alloc _) (HR.out.ths.new ((by repeat' (first | (with_reducible exact Below.refl _ _) | (with_reducible refine Below.drew ?_) | (with_reducible refine bo_drewN _ ?_) | (with_reducible refine bo_alloc ?_ _) | (refine bchain ?_ (by with_reducible assumption)) | (with_reducible refine Below.setCell ?_ ?_ _) | go_size))))).mono ?_; rw [hok]; rintro x w1 ⟨rfl, hb1⟩
    have hbx : Below (w.heap.size + 1) (w.alloc (.cells #[.slice ad cells.length cap, .slice ad' T.length cap'] 27)) w1 := by simpa using hb1
    have HBX := hide hbx
    clear hbx hb1
    have HOK := hide hok
    clear hok
    obtain ⟨_, hcx, _, _⟩ := box1 HBX.out
    have x1 := hcx 1
    simp at x1
    clear hcx
    go_wp2_with fail
    go_loopw [3] (fun i wr => ∃ (k : Nat), i = .int .i64 k ∧ k ≤ T.length ∧ (∀ j (hj : j < T.length), j < k → thru T[j].d = true) ∧ Below (w.heap.size + 1) (w.alloc (.cells #[.slice ad cells.length cap, .slice ad' T.length cap'] 27)) wr) (fun i _ => T.length - (intOf i).toNat)
    case atStart => exact ⟨0, rfl, Nat.zero_le _, fun j _ hj => absurd hj (Nat.not_lt_zero _), HBX.out⟩
    case round =>
      obtain ⟨k, rfl, hk, hall, hb'⟩ := hrel
      have HA := hide hall
      have HB := hide hb'
      clear hall
      obtain ⟨hb, hcx, _, hsz⟩ := box1 hb'
      have x1 := hcx 1
      simp at x1
      clear hcx hb'
      by_cases hlt : k < T.length
      · obtain ⟨sz0, ad1, cap1, et1, g1, g2, hrd⟩ := H3'.out.row; simp only [Value.slice.injEq] at et1; obtain ⟨rfl, _, rfl⟩ := et1; obtain ⟨b, o, rfl, hbw', hc⟩ := hrd (by omega); obtain ⟨s0, s1, s2, s3⟩ := tv_get T k hlt; have hrt := (H3'.out.st _ (List.getElem_mem hlt)).new hb; obtain ⟨t, htt⟩ : ∃ t, t = T[k] := ⟨_, rfl⟩; rw [← htt] at s0 s1 s2 s3 hrt; obtain ⟨ad0, cap0, hsv0, _⟩ := hrt.2; rw [hsv0] at s0 hrt; have c0 : World.cell? wr ⟨b, o + k * 4, none⟩ = some (.slice ad0 t.st.length cap0) := (by rw [hb.cell (p := ⟨b, o + k * 4, none⟩) hbw']; exact hc _ _ s0); have c1 : World.cell? wr ⟨b, o + k * 4 + 1, none⟩ = some (.int .i64 t.pos) := (by rw [hb.cell (p := ⟨b, o + k * 4 + 1, none⟩) hbw']; exact hc _ _ s1); have c2 : World.cell? wr ⟨b, o + k * 4 + 2, none⟩ = some (.int .i64 t.seen) := (by rw [hb.cell (p := ⟨b, o + k * 4 + 2, none⟩) hbw']; exact hc _ _ s2); have c3 : World.cell? wr ⟨b, o + k * 4 + 3, none⟩ = some (.int .i64 t.won) := (by rw [hb.cell (p := ⟨b, o + k * 4 + 3, none⟩) hbw']; exact hc _ _ s3); have HRT := hide hrt; have HTT := hide htt; clear hc s0 s1 s2 s3 hrt hsv0 hrd htt
        have hbne : b < wr.heap.size := by omega
        cases hth : thru t.d
        · have V : Hid (thruM ⟨cells, T.map Th.d⟩ = false) := by
            show _ = _
            simp only [thruM, all_no (p := thru) k (show k < (T.map Th.d).length by simpa using hlt) (by simpa [← HTT.out] using hth), Bool.and_false]
          have heq : (t.pos == (t.st.length : Int)) = false := hth
          have hne : (t.pos != (t.st.length : Int)) = true := by rw [bne, heq]; rfl
          clear hth heq
          go_wp2_with fail
          go_quiet (fail)
          go_wp2_with fail
          go_ret
          exact ⟨by rw [V.out]; rfl, bo_drewN _ hb⟩
        · have HK := hide hth
          have heq : (t.pos == (t.st.length : Int)) = true := hth
          have hne : (t.pos != (t.st.length : Int)) = false := by rw [bne, heq]; rfl
          clear hth heq
          go_wp2_with fail
          go_quiet (fail)
          go_wp2_with fail
          go_roundw
          case rel => exact ⟨k + 1, by go_num, by omega, fun j hj hjk => by
            by_cases hje : j = k
            · subst hje; rw [← HTT.out]; exact HK.out
            · exact HA.out j hj (by omega), bo_drewN _ HB.out⟩
          case measure => simp [intOf]; omega
      · have V : Hid (thruM ⟨cells, T.map Th.d⟩ = true) := by
          show _ = _
          simp only [thruM, HOK.out, all_yes (p := thru) (L := T.map Th.d) fun j hj => by simpa using HA.out j (by simpa using hj) (by have : j < T.length := (by simpa using hj); omega), Bool.and_self]
        go_wp2_with fail
        go_ret
        exact ⟨by rw [V.out]; rfl, hb⟩
end Go.Proofs.Ytdplpkobpoiioaa
