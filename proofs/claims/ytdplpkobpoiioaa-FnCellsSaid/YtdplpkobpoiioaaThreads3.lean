/- Rows of Threads: held against each other, counted. -/
import Derived.Test.YtdplpkobpoiioaaThreads2

namespace Go.Proofs.Ytdplpkobpoiioaa
open Go.RowKit
set_option linter.unusedSimpArgs false
set_option linter.unusedVariables false

set_option maxHeartbeats 1000000 in
theorem eqThread1 (d : DTh) (v v' : Value) (w : World) (hr : Reads w v d.st.length 3 (sv d.st)) (hr' : Reads w v' d.st.length 3 (sv d.st)) :
    Calls Try.prog 63 #[.agg #[v, .int .i64 d.pos, .int .i64 d.seen, .int .i64 d.won], .agg #[v', .int .i64 d.pos, .int .i64 d.seen, .int .i64 d.won]] w fun x w' => x = .returned (.bool true) ∧ Below w.heap.size w w' := by
  obtain ⟨ad, cap, hsv, _⟩ := hr.2
  obtain ⟨ad', cap', hsv', _⟩ := hr'.2
  subst hsv hsv'
  have HR := hide hr; have HR' := hide hr'
  clear hr hr'
  obtain ⟨st, p, s, n⟩ := d
  simp only at HR HR' ⊢
  go_enter Try.func63, Try.ntmps63
  go_wp2_with fail
  refine (eqSteps st _ _ _ ?c1 ?c2).mono ?_
  case c1 => exact (HR.out.alloc _).alloc _
  case c2 => exact (HR'.out.alloc _).alloc _
  rintro x w1 ⟨rfl, hb1⟩; have hz1 := hb1.size; (try simp at hz1); have hc1 := fun o => hb1.cell (p := ⟨w.heap.size, o, none⟩) (by first | (simp; done) | (simp; omega) | omega); have hf1 := fun o => hb1.frozen (p := ⟨w.heap.size, o, none⟩) (by first | (simp; done) | (simp; omega) | omega); have hcn1 := fun o => hb1.cell (p := ⟨w.heap.size + 1, o, none⟩) (by first | (simp; done) | (simp; omega) | omega); have hfn1 := fun o => hb1.frozen (p := ⟨w.heap.size + 1, o, none⟩) (by first | (simp; done) | (simp; omega) | omega)
  go_wp2_with fail
  go_ret
  exact ⟨rfl, (by repeat' (first | (with_reducible exact Below.refl _ _) | (with_reducible refine Below.drew ?_) | (with_reducible refine bo_drewN _ ?_) | (with_reducible refine bo_alloc ?_ _) | (refine bchain ?_ (by with_reducible assumption)) | (with_reducible refine Below.setCell ?_ ?_ _) | go_size))⟩

set_option maxHeartbeats 1000000 in
theorem szThread1 (t : Th) (left : Int) (w : World) (hr : Reads w t.sv t.st.length 3 (sv t.st)) (h0 : 0 ≤ left) (h1 : left ≤ 1048576) :
    Calls Try.prog 61 #[.agg #[t.sv, .int .i64 t.pos, .int .i64 t.seen, .int .i64 t.won], .int .i64 left] w fun x w' => x = .returned (.int .i64 (if left - t.st.length < 0 then -1 else left - t.st.length)) ∧ Below w.heap.size w w' := by
  obtain ⟨ad, cap, hsv, _⟩ := hr.2
  obtain ⟨sv0, st, p, s, n⟩ := t
  simp only at hsv hr ⊢
  subst hsv
  have HR := hide hr
  clear hr
  by_cases h : left - st.length < 0
  · go_enter Try.func61, Try.ntmps61
    go_wp2_with fail
    refine (szSteps _ st.length _ _ _ (HR.out.alloc _) h0 h1).mono ?_
    rw [if_pos h]; rintro x w1 ⟨rfl, rfl⟩
    go_wp2_with fail
    go_ret
    exact ⟨by simp [h], (by repeat' (first | (with_reducible exact Below.refl _ _) | (with_reducible refine Below.drew ?_) | (with_reducible refine bo_drewN _ ?_) | (with_reducible refine bo_alloc ?_ _) | (refine bchain ?_ (by with_reducible assumption)) | (with_reducible refine Below.setCell ?_ ?_ _) | go_size))⟩
  · go_enter Try.func61, Try.ntmps61
    go_wp2_with fail
    refine (szSteps _ st.length _ _ _ (HR.out.alloc _) h0 h1).mono ?_
    rw [if_neg (by omega)]; rintro x w1 ⟨rfl, rfl⟩
    go_wp2_with fail
    go_ret
    exact ⟨by simp [h], (by repeat' (first | (with_reducible exact Below.refl _ _) | (with_reducible refine Below.drew ?_) | (with_reducible refine bo_drewN _ ?_) | (with_reducible refine bo_alloc ?_ _) | (refine bchain ?_ (by with_reducible assumption)) | (with_reducible refine Below.setCell ?_ ?_ _) | go_size))⟩

def szT : List Th → Int
  | [] => 0
  | t :: T => t.st.length + szT T
theorem szT_app (A B : List Th) : szT (A ++ B) = szT A + szT B := by
  induction A with
  | nil => simp [szT]
  | cons a A ih => simp [szT, ih]; omega
theorem szT_nn (A : List Th) : 0 ≤ szT A := by
  induction A with
  | nil => simp [szT]
  | cons a A ih => simp [szT]; omega
theorem szT_take (T : List Th) (k : Nat) (h : k < T.length) : szT (T.take (k + 1)) = szT (T.take k) + T[k].st.length := by
  rw [List.take_succ_eq_append_getElem h, szT_app]; simp [szT]
theorem szT_le (T : List Th) (k : Nat) : szT (T.take k) ≤ szT T := by
  have h : szT T = szT (T.take k) + szT (T.drop k) := by rw [← szT_app, List.take_append_drop]
  have := szT_nn (T.drop k)
  omega
theorem szT_mem (T : List Th) (t : Th) (h : t ∈ T) : (t.st.length : Int) ≤ szT T := by
  induction T with
  | nil => cases h
  | cons a A ih =>
    have := szT_nn A
    simp only [szT]
    rcases List.mem_cons.1 h with rfl | h
    · omega
    · have := ih h; omega

set_option maxHeartbeats 1000000 in
theorem szThreads (T : List Th) (v : Value) (left : Int) (w : World) (hr : ReadTs w v T) (h0 : 0 ≤ left) (h1 : left ≤ 1048576) :
    Calls Try.prog 50 #[v, .int .i64 left] w fun x w' => (x = .returned (.int .i64 (-1)) ∨ (x = .returned (.int .i64 (left - T.length - szT T)) ∧ 0 ≤ left - T.length - szT T)) ∧ Below w.heap.size w w' := by
  have HT := hide hr.st
  obtain ⟨hl, ad, cap, rfl, h2, h3, h4⟩ := hr.row
  have H4 := hide h4
  clear h4 hr
  unfold maxLen at h3
  by_cases h : left - T.length < 0
  · go_enter Try.func50, Try.ntmps50
    go_wp2
    go_ret
    exact ⟨.inl rfl, Below.refl _ _⟩
  · go_enter Try.func50, Try.ntmps50
    go_wp2_with fail
    go_loopw [1, 5] (fun l i wr => ∃ (k : Nat), i = .int .i64 k ∧ k ≤ T.length ∧ l = .int .i64 (left - T.length - szT (T.take k)) ∧ 0 ≤ left - T.length - szT (T.take k) ∧ Below w.heap.size w wr) (fun _ i _ => T.length - (intOf i).toNat)
    case atStart => exact ⟨0, rfl, Nat.zero_le _, by simp [szT], by simp [szT]; omega, Below.refl _ _⟩
    case round =>
      obtain ⟨k, rfl, hk, rfl, hk0, hb⟩ := hrel
      by_cases hlt : k < T.length
      · obtain ⟨b, o, rfl, hbw, hc⟩ := H4.out (by omega)
        obtain ⟨s0, s1, s2, s3⟩ := tv_get T k hlt
        have hmem : T[k] ∈ T := List.getElem_mem hlt
        have hrt := (HT.out _ hmem).new hb
        have hsn := szT_take T k hlt
        have hnn := szT_nn (T.take k)
        obtain ⟨t, htt⟩ : ∃ t, t = T[k] := ⟨_, rfl⟩
        rw [← htt] at s0 s1 s2 s3 hrt hsn
        obtain ⟨ad0, cap0, hsv0, _⟩ := hrt.2
        rw [hsv0] at s0
        have c0 : World.cell? wr ⟨b, o + k * 4, none⟩ = some (.slice ad0 t.st.length cap0) := (by rw [hb.cell (p := ⟨b, o + k * 4, none⟩) hbw]; exact hc _ _ s0)
        have c1 : World.cell? wr ⟨b, o + k * 4 + 1, none⟩ = some (.int .i64 t.pos) := (by rw [hb.cell (p := ⟨b, o + k * 4 + 1, none⟩) hbw]; exact hc _ _ s1)
        have c2 : World.cell? wr ⟨b, o + k * 4 + 2, none⟩ = some (.int .i64 t.seen) := (by rw [hb.cell (p := ⟨b, o + k * 4 + 2, none⟩) hbw]; exact hc _ _ s2)
        have c3 : World.cell? wr ⟨b, o + k * 4 + 3, none⟩ = some (.int .i64 t.won) := (by rw [hb.cell (p := ⟨b, o + k * 4 + 3, none⟩) hbw]; exact hc _ _ s3)
        have hcall := fun l => szThread1 t l wr hrt
        rw [hsv0] at hcall
        have HC := hide hcall
        generalize hq : szT (List.take k T) = q at *
        generalize hq' : szT (List.take (k + 1) T) = q' at *
        have HQ := hide hq'
        clear hrt hc s0 s1 s2 s3 hsv0 htt hmem hcall hq hq'
        by_cases hneg : left - T.length - q - t.st.length < 0
        · go_wp2_with fail
          refine (HC.out _ (by omega) (by omega)).mono ?_
          rw [if_pos hneg]; rintro x w1 ⟨rfl, hb1⟩
          go_wp2_with fail
          go_ret
          exact ⟨.inl rfl, bchain hb hb1⟩
        · go_wp2_with fail
          refine (HC.out _ (by omega) (by omega)).mono ?_
          rw [if_neg (by omega)]; rintro x w1 ⟨rfl, hb1⟩
          go_wp2_with fail
          go_roundw
          case rel => exact ⟨k + 1, by go_num, by omega, int_eq (by rw [HQ.out]; omega), by rw [HQ.out]; omega, bchain hb hb1⟩
          case measure => simp [intOf]; omega
      · obtain rfl : k = T.length := by omega
        rw [List.take_length] at *
        go_wp2_with fail
        go_ret
        exact ⟨.inr ⟨rfl, hk0⟩, hb⟩

theorem d_get {T T' : List Th} (h : T'.map Th.d = T.map Th.d) (k : Nat) (h1 : k < T.length) (h2 : k < T'.length) : T'[k].d = T[k].d := by
  have h3 : (T'.map Th.d)[k]? = (T.map Th.d)[k]? := by rw [h]
  simpa [h1, h2] using h3
theorem d_len {T T' : List Th} (h : T'.map Th.d = T.map Th.d) : T'.length = T.length := by
  have := congrArg List.length h
  simpa using this

set_option maxHeartbeats 1000000 in
theorem eqThreads (T T' : List Th) (v v' : Value) (w : World) (hr0 : ReadTs w v T) (hr1 : ReadTs w v' T') (hd : T'.map Th.d = T.map Th.d) :
    Calls Try.prog 52 #[v, v'] w fun x w' => x = .returned (.bool true) ∧ Below w.heap.size w w' := by
  have HT := hide hr0.st
  have HT' := hide hr1.st
  have HD := hide hd
  have hlen := d_len hd
  obtain ⟨hl, ad, cap, rfl, h1, h2, h3⟩ := hr0.row
  obtain ⟨hl', ad', cap', rfl, h1', h2', h3'⟩ := hr1.row
  have H3 := hide h3
  have H3' := hide h3'
  clear h3 h3' hr0 hr1 hd
  unfold maxLen at h2 h2'
  go_enter Try.func52, Try.ntmps52
  go_wp2_with fail
  go_loopw [5] (fun i wr => ∃ (k : Nat), i = .int .i64 k ∧ k ≤ T.length ∧ Below w.heap.size w wr) (fun i _ => T.length - (intOf i).toNat)
  case atStart => exact ⟨0, rfl, Nat.zero_le _, Below.refl _ _⟩
  case round =>
    obtain ⟨k, rfl, hk, hb⟩ := hrel
    by_cases hlt : k < T.length
    · obtain ⟨b, o, rfl, hbw, hc⟩ := H3.out (by omega)
      obtain ⟨b', o', rfl, hbw', hc'⟩ := H3'.out (by omega)
      obtain ⟨s0, s1, s2, s3⟩ := tv_get T k hlt
      obtain ⟨z0, z1, z2, z3⟩ := tv_get T' k (by omega)
      have hrt := (HT.out _ (List.getElem_mem hlt)).new hb
      have hrt' := (HT'.out _ (List.getElem_mem (show k < T'.length by omega))).new hb
      have hdk := d_get HD.out k hlt (by omega)
      obtain ⟨t, htt⟩ : ∃ t, t = T[k] := ⟨_, rfl⟩
      obtain ⟨t', htt'⟩ : ∃ t, t = T'[k]'(by omega) := ⟨_, rfl⟩
      rw [← htt] at s0 s1 s2 s3 hrt hdk
      rw [← htt'] at z0 z1 z2 z3 hrt' hdk
      obtain ⟨sv1, st1, p1, q1, r1⟩ := t
      obtain ⟨sv2, st2, p2, q2, r2⟩ := t'
      simp only [Th.d, DTh.mk.injEq] at hdk s0 s1 s2 s3 z0 z1 z2 z3 hrt hrt'
      obtain ⟨rfl, rfl, rfl, rfl⟩ := hdk
      obtain ⟨ad0, cap0, rfl, _⟩ := hrt.2
      obtain ⟨ad0', cap0', rfl, _⟩ := hrt'.2
      have c0 : World.cell? wr ⟨b, o + k * 4, none⟩ = some (.slice ad0 st2.length cap0) := (by rw [hb.cell (p := ⟨b, o + k * 4, none⟩) hbw]; exact hc _ _ s0)
      have c1 : World.cell? wr ⟨b, o + k * 4 + 1, none⟩ = some (.int .i64 p2) := (by rw [hb.cell (p := ⟨b, o + k * 4 + 1, none⟩) hbw]; exact hc _ _ s1)
      have c2 : World.cell? wr ⟨b, o + k * 4 + 2, none⟩ = some (.int .i64 q2) := (by rw [hb.cell (p := ⟨b, o + k * 4 + 2, none⟩) hbw]; exact hc _ _ s2)
      have c3 : World.cell? wr ⟨b, o + k * 4 + 3, none⟩ = some (.int .i64 r2) := (by rw [hb.cell (p := ⟨b, o + k * 4 + 3, none⟩) hbw]; exact hc _ _ s3)
      have d0 : World.cell? wr ⟨b', o' + k * 4, none⟩ = some (.slice ad0' st2.length cap0') := (by rw [hb.cell (p := ⟨b', o' + k * 4, none⟩) hbw']; exact hc' _ _ z0)
      have d1 : World.cell? wr ⟨b', o' + k * 4 + 1, none⟩ = some (.int .i64 p2) := (by rw [hb.cell (p := ⟨b', o' + k * 4 + 1, none⟩) hbw']; exact hc' _ _ z1)
      have d2 : World.cell? wr ⟨b', o' + k * 4 + 2, none⟩ = some (.int .i64 q2) := (by rw [hb.cell (p := ⟨b', o' + k * 4 + 2, none⟩) hbw']; exact hc' _ _ z2)
      have d3 : World.cell? wr ⟨b', o' + k * 4 + 3, none⟩ = some (.int .i64 r2) := (by rw [hb.cell (p := ⟨b', o' + k * 4 + 3, none⟩) hbw']; exact hc' _ _ z3)
      have hsb := hb.size
      have hb1 : b < wr.heap.size := by omega
      have hb2 : b' < wr.heap.size := by omega
      have HR := hide hrt; have HR' := hide hrt'
      clear hc hc' s0 s1 s2 s3 z0 z1 z2 z3 hrt hrt' htt htt'
      go_wp2_with fail
      have qa0 : ∀ y : Later wr, y.w.cell? ⟨b, o + k * 4, none⟩ = some (.slice ad0 st2.length cap0) := fun y => (y.b.cell (p := ⟨b, o + k * 4, none⟩) hb1).trans c0
      have qa1 : ∀ y : Later wr, y.w.cell? ⟨b, o + k * 4 + 1, none⟩ = some (.int .i64 p2) := fun y => (y.b.cell (p := ⟨b, o + k * 4 + 1, none⟩) hb1).trans c1
      have qa2 : ∀ y : Later wr, y.w.cell? ⟨b, o + k * 4 + 2, none⟩ = some (.int .i64 q2) := fun y => (y.b.cell (p := ⟨b, o + k * 4 + 2, none⟩) hb1).trans c2
      have qa3 : ∀ y : Later wr, y.w.cell? ⟨b, o + k * 4 + 3, none⟩ = some (.int .i64 r2) := fun y => (y.b.cell (p := ⟨b, o + k * 4 + 3, none⟩) hb1).trans c3
      have qb0 : ∀ y : Later wr, y.w.cell? ⟨b', o' + k * 4, none⟩ = some (.slice ad0' st2.length cap0') := fun y => (y.b.cell (p := ⟨b', o' + k * 4, none⟩) hb2).trans d0
      have qb1 : ∀ y : Later wr, y.w.cell? ⟨b', o' + k * 4 + 1, none⟩ = some (.int .i64 p2) := fun y => (y.b.cell (p := ⟨b', o' + k * 4 + 1, none⟩) hb2).trans d1
      have qb2 : ∀ y : Later wr, y.w.cell? ⟨b', o' + k * 4 + 2, none⟩ = some (.int .i64 q2) := fun y => (y.b.cell (p := ⟨b', o' + k * 4 + 2, none⟩) hb2).trans d2
      have qb3 : ∀ y : Later wr, y.w.cell? ⟨b', o' + k * 4 + 3, none⟩ = some (.int .i64 r2) := fun y => (y.b.cell (p := ⟨b', o' + k * 4 + 3, none⟩) hb2).trans d3
      clear c0 c1 c2 c3 d0 d1 d2 d3
      have hne : Nonempty (Later wr) := ⟨⟨wr, Below.refl _ _⟩⟩; refine region_later (by kernel_rfl) (by kernel_rfl) ?_
      repeat (go_big_quiet_step (fail))
      go_big_quiet_want; go_big_quiet_op
      refine ⟨.bool true, fun y => later_calls (x := y) (eqThread1 ⟨st2, p2, q2, r2⟩ _ _ y.w (HR.out.new y.b) (HR'.out.new y.b)), ?_⟩
      go_big_quiet_on
      repeat (go_big_quiet_step (fail))
      refine wpQuiet_nil ?_; intro _ hw'; obtain ⟨y, hw''⟩ := hw'; subst hw''; have hby := y.b
      go_wp2_with fail
      go_roundw
      case rel => exact ⟨k + 1, by go_num, by omega, bchain hb hby⟩
      case measure => simp [intOf]; omega
    · go_wp2_with fail
      go_ret
      exact ⟨rfl, hb⟩
end Go.Proofs.Ytdplpkobpoiioaa
