/- Is a Memory right? What the program says and what its model says, at every Memory. -/
import Derived.Test.YtdplpkobpoiioaaMem

namespace Go.Proofs.Ytdplpkobpoiioaa
open Go.RowKit
set_option linter.unusedSimpArgs false
set_option linter.unusedVariables false

theorem box1 {w wr : World} {cs : Array Value} {t : TypeId} (hb : Below (w.heap.size + 1) (w.alloc (.cells cs t)) wr) : Below w.heap.size w wr ∧ (∀ o, wr.cell? ⟨w.heap.size, o, none⟩ = cs[o]?) ∧ (∀ o, wr.frozen? ⟨w.heap.size, o, none⟩ = false) ∧ w.heap.size < wr.heap.size := by
  have hs := hb.size
  simp at hs
  have hh : wr.heap[w.heap.size]? = some (.cells cs t (0, 0)) := (hb.block _ (Nat.lt_succ_self _)).trans (heap_alloc_new w _)
  refine ⟨((Below.refl _ w).alloc (Nat.le_refl _) _).trans (hb.mono (by omega)), fun o => ?_, fun o => ?_, by omega⟩
  · simp [World.cell?, hh]
  · simp [World.frozen?, hh]

theorem box2 {w wr : World} {cs : Array Value} {t : TypeId} (hb : Below (w.alloc (.cells cs t)).heap.size (w.alloc (.cells cs t)) wr) : (∀ o, wr.cell? ⟨w.heap.size, o, none⟩ = cs[o]?) ∧ (∀ o, wr.frozen? ⟨w.heap.size, o, none⟩ = false) ∧ w.heap.size < wr.heap.size := by
  rw [World.size_alloc] at hb
  exact (box1 hb).2

def rng (lo x hi : Int) : Bool := decide (lo ≤ x ∧ x ≤ hi)
def okSt (s : St) : Bool := rng 1 s.k 3 && rng 0 s.c 3 && rng 0 s.a 100
def okTh (d : DTh) : Bool := decide ((d.st.length : Int) ≤ 20) && rng 0 d.pos d.st.length && rng 0 d.seen 1000000 && rng 0 d.won 1000000 && d.st.all okSt
def okM (D : DMem) : Bool := decide ((D.cells.length : Int) = 4) && decide ((D.ths.length : Int) ≤ 6) && D.cells.all (fun c => rng 0 c 1000000) && D.ths.all okTh

theorem all_yes {α : Type} {L : List α} {p : α → Bool} (h : ∀ j (hj : j < L.length), p L[j] = true) : L.all p = true := by
  rw [List.all_eq_true]; intro x hx
  obtain ⟨j, hj, rfl⟩ := List.getElem_of_mem hx
  exact h j hj
theorem all_no {α : Type} {L : List α} {p : α → Bool} (j : Nat) (hj : j < L.length) (h : p L[j] = false) : L.all p = false := by
  rw [List.all_eq_false]; exact ⟨L[j], List.getElem_mem hj, by simp [h]⟩

theorem in1 (x lo hi : Int) (w : World) :
    Calls Try.prog 47 #[.int .i64 x, .int .i64 lo, .int .i64 hi] w fun e w' => e = .returned (.bool (rng lo x hi)) ∧ w' = w := by
  unfold rng
  by_cases h1 : lo ≤ x
  · by_cases h2 : x ≤ hi
    · go_enter Try.func47, Try.ntmps47
      go_wp2
      go_ret
      exact ⟨by simp [h1, h2], rfl⟩
    · have hd : decide (lo ≤ x ∧ x ≤ hi) = false := by simp [h2]
      rw [hd]
      go_enter Try.func47, Try.ntmps47
      go_wp2
      go_ret
      exact ⟨by simp [h1, h2], rfl⟩
  · have hd : decide (lo ≤ x ∧ x ≤ hi) = false := by simp [h1]
    rw [hd]
    go_enter Try.func47, Try.ntmps47
    go_wp2
    go_ret
    exact ⟨rfl, rfl⟩

theorem within1 (x lo hi : Int) (w : World) :
    Calls Try.prog 58 #[.int .i64 x, .int .i64 lo, .int .i64 hi] w fun e w' => e = .returned (.bool (rng lo x hi)) ∧ w' = w := by
  unfold rng
  by_cases h1 : lo ≤ x
  · by_cases h2 : x ≤ hi
    · go_enter Try.func58, Try.ntmps58
      go_wp2
      go_ret
      exact ⟨by simp [h1, h2], rfl⟩
    · have hd : decide (lo ≤ x ∧ x ≤ hi) = false := by simp [h2]
      rw [hd]
      go_enter Try.func58, Try.ntmps58
      go_wp2
      go_ret
      exact ⟨by simp [h1, h2], rfl⟩
  · have hd : decide (lo ≤ x ∧ x ≤ hi) = false := by simp [h1]
    rw [hd]
    go_enter Try.func58, Try.ntmps58
    go_wp2
    go_ret
    exact ⟨rfl, rfl⟩

set_option maxHeartbeats 1000000 in
theorem specStep (s : St) (w : World) : Calls Try.prog 48 #[.agg #[.int .i64 s.k, .int .i64 s.c, .int .i64 s.a]] w fun x w' => x = .returned (.bool (okSt s)) ∧ Below w.heap.size w w' := by
  unfold okSt
  cases h1 : rng 1 s.k 3 <;> cases h2 : rng 0 s.c 3 <;> cases h3 : rng 0 s.a 100 <;> (
    go_enter Try.func48, Try.ntmps48
    go_wp2_with (go_at_call 47; refine (in1 _ _ _ _).mono ?_; simp only [h1, h2, h3]; rintro x w' ⟨rfl, rfl⟩)
    go_ret
    exact ⟨rfl, (by repeat' (first | (with_reducible exact Below.refl _ _) | (with_reducible refine Below.drew ?_) | (with_reducible refine bo_drewN _ ?_) | (with_reducible refine bo_alloc ?_ _) | (refine bchain ?_ (by with_reducible assumption)) | (with_reducible refine Below.setCell ?_ ?_ _) | go_size))⟩)

set_option maxHeartbeats 1000000 in
theorem implStep (s : St) (w : World) : Calls Try.prog 67 #[.agg #[.int .i64 s.k, .int .i64 s.c, .int .i64 s.a]] w fun x w' => x = .returned (.bool (okSt s)) ∧ Below w.heap.size w w' := by
  unfold okSt
  cases h1 : rng 1 s.k 3 <;> cases h2 : rng 0 s.c 3 <;> cases h3 : rng 0 s.a 100 <;> (
    go_enter Try.func67, Try.ntmps67
    go_wp2_with (go_at_call 58; refine (within1 _ _ _ _).mono ?_; simp only [h1, h2, h3]; rintro x w' ⟨rfl, rfl⟩)
    go_ret
    exact ⟨rfl, (by repeat' (first | (with_reducible exact Below.refl _ _) | (with_reducible refine Below.drew ?_) | (with_reducible refine bo_drewN _ ?_) | (with_reducible refine bo_alloc ?_ _) | (refine bchain ?_ (by with_reducible assumption)) | (with_reducible refine Below.setCell ?_ ?_ _) | go_size))⟩)

theorem okTh_len {st : List St} {p s n : Int} (h : ¬ (st.length : Int) ≤ 20) : okTh ⟨st, p, s, n⟩ = false := by simp only [okTh, decide_eq_false h, Bool.false_and]
theorem okTh_pos {st : List St} {p s n : Int} (h : rng 0 p st.length = false) : okTh ⟨st, p, s, n⟩ = false := by simp only [okTh, h, Bool.false_and, Bool.and_false]
theorem okTh_seen {st : List St} {p s n : Int} (h : rng 0 s 1000000 = false) : okTh ⟨st, p, s, n⟩ = false := by simp only [okTh, h, Bool.false_and, Bool.and_false]
theorem okTh_won {st : List St} {p s n : Int} (h : rng 0 n 1000000 = false) : okTh ⟨st, p, s, n⟩ = false := by simp only [okTh, h, Bool.false_and, Bool.and_false]
theorem okTh_st {st : List St} {p s n : Int} (h : st.all okSt = false) : okTh ⟨st, p, s, n⟩ = false := by simp only [okTh, h, Bool.and_false]
theorem okTh_end {st : List St} {p s n : Int} (h1 : (st.length : Int) ≤ 20) (h2 : rng 0 p st.length = true) (h3 : rng 0 s 1000000 = true) (h4 : rng 0 n 1000000 = true) (h5 : st.all okSt = true) : okTh ⟨st, p, s, n⟩ = true := by simp only [okTh, decide_eq_true h1, h2, h3, h4, h5, Bool.and_self]

set_option maxHeartbeats 1000000 in
theorem implThread (d : DTh) (v : Value) (w : World) (hr : Reads w v d.st.length 3 (sv d.st)) :
    Calls Try.prog 59 #[.agg #[v, .int .i64 d.pos, .int .i64 d.seen, .int .i64 d.won]] w fun x w' => x = .returned (.bool (okTh d)) ∧ Below w.heap.size w w' := by
  obtain ⟨st, p, s, n⟩ := d
  simp only at hr ⊢
  obtain ⟨hl, ad, cap, rfl, h1, h2, h3⟩ := hr
  have H3 := hide h3
  clear h3
  unfold maxLen at h2
  by_cases h20 : (st.length : Int) ≤ 20
  · cases hp : rng 0 p st.length
    · have V := hide (okTh_pos (s := s) (n := n) hp)
      go_enter Try.func59, Try.ntmps59
      go_wp2_with (go_at_call 58; refine (within1 _ _ _ _).mono ?_; rw [hp]; rintro x w' ⟨rfl, rfl⟩)
      go_ret
      exact ⟨by rw [V.out]; rfl, (by repeat' (first | (with_reducible exact Below.refl _ _) | (with_reducible refine Below.drew ?_) | (with_reducible refine bo_drewN _ ?_) | (with_reducible refine bo_alloc ?_ _) | (refine bchain ?_ (by with_reducible assumption)) | (with_reducible refine Below.setCell ?_ ?_ _) | go_size))⟩
    · go_enter Try.func59, Try.ntmps59
      go_wp2_with (go_at_call 58; refine (within1 _ _ _ _).mono ?_; rw [hp]; rintro x w' ⟨rfl, rfl⟩)
      go_loopw [21] (fun i wr => ∃ (k : Nat), i = .int .i64 k ∧ k ≤ st.length ∧ (∀ j (hj : j < st.length), j < k → okSt st[j] = true) ∧ Below (w.heap.size + 1) (w.alloc (.cells #[.slice ad st.length cap, .int .i64 p, .int .i64 s, .int .i64 n] 41)) wr) (fun i _ => st.length - (intOf i).toNat)
      case atStart => exact ⟨0, rfl, Nat.zero_le _, fun j _ hj => absurd hj (Nat.not_lt_zero _), Below.refl _ _⟩
      case round =>
        obtain ⟨k, rfl, hk, hall, hb⟩ := hrel
        obtain ⟨hbw, hcell, hfr, hsz⟩ := box1 hb
        have b2 := hcell 2; have b3 := hcell 3
        simp at b2 b3
        have HA := hide hall; have HB := hide hb
        clear hcell hall hb
        by_cases hlt : k < st.length
        · obtain ⟨b, o, rfl, hbw', hc⟩ := H3.out (by omega)
          obtain ⟨s0, s1, s2⟩ := sv_get st k hlt
          have c0 : World.cell? wr ⟨b, o + k * 3, none⟩ = some (.int .i64 st[k].k) := (by rw [hbw.cell (p := ⟨b, o + k * 3, none⟩) hbw']; exact hc _ _ s0)
          have c1 : World.cell? wr ⟨b, o + k * 3 + 1, none⟩ = some (.int .i64 st[k].c) := (by rw [hbw.cell (p := ⟨b, o + k * 3 + 1, none⟩) hbw']; exact hc _ _ s1)
          have c2 : World.cell? wr ⟨b, o + k * 3 + 2, none⟩ = some (.int .i64 st[k].a) := (by rw [hbw.cell (p := ⟨b, o + k * 3 + 2, none⟩) hbw']; exact hc _ _ s2)
          clear hc s0 s1 s2
          have hblt : b < wr.heap.size := by omega
          cases hok : okSt st[k]
          · have V := hide (okTh_st (p := p) (s := s) (n := n) (all_no k hlt hok))
            go_wp2_with fail
            refine (implStep st[k] _).mono ?_; rw [hok]; rintro x w1 ⟨rfl, hb1⟩
            go_wp2_with fail
            go_ret
            exact ⟨by rw [V.out]; rfl, (by repeat' (first | (with_reducible exact Below.refl _ _) | (with_reducible refine Below.drew ?_) | (with_reducible refine bo_drewN _ ?_) | (with_reducible refine bo_alloc ?_ _) | (refine bchain ?_ (by with_reducible assumption)) | (with_reducible refine Below.setCell ?_ ?_ _) | go_size))⟩
          · go_wp2_with fail
            refine (implStep st[k] _).mono ?_; rw [hok]; rintro x w1 ⟨rfl, hb1⟩
            have hb2 : Below (w.heap.size + 1) (w.alloc (.cells #[.slice (some ⟨b, o, none⟩) st.length cap, .int .i64 p, .int .i64 s, .int .i64 n] 41)) w1 := (HB.out.alloc (by omega) _).trans (hb1.mono (by simp; omega))
            have HB2 := hide hb2
            have hok' := hide hok
            clear hb2 hok
            go_wp2_with fail
            go_roundw
            case rel => exact ⟨k + 1, by go_num, by omega, fun j hj hjk => by
              by_cases hje : j = k
              · subst hje; exact hok'.out
              · exact HA.out j hj (by omega), HB2.out⟩
            case measure => simp [intOf]; omega
        · have hyes : st.all okSt = true := all_yes fun j hj => HA.out j hj (by omega)
          cases hs : rng 0 s 1000000
          · have V := hide (okTh_seen (st := st) (p := p) (n := n) hs)
            clear hyes
            go_wp2_with (go_at_call 58; refine (within1 _ _ _ _).mono ?_; simp only [hs]; rintro x w' ⟨rfl, rfl⟩)
            go_ret
            exact ⟨by rw [V.out]; rfl, hbw⟩
          · cases hn : rng 0 n 1000000
            · have V := hide (okTh_won (st := st) (p := p) (s := s) hn)
              clear hyes
              go_wp2_with (go_at_call 58; refine (within1 _ _ _ _).mono ?_; simp only [hs, hn]; rintro x w' ⟨rfl, rfl⟩)
              go_ret
              exact ⟨by rw [V.out]; rfl, hbw⟩
            · have V := hide (okTh_end h20 hp hs hn hyes)
              clear hyes
              go_wp2_with (go_at_call 58; refine (within1 _ _ _ _).mono ?_; simp only [hs, hn]; rintro x w' ⟨rfl, rfl⟩)
              go_ret
              exact ⟨by rw [V.out]; rfl, hbw⟩
  · have V := hide (okTh_len (p := p) (s := s) (n := n) h20)
    go_enter Try.func59, Try.ntmps59
    go_wp2_with fail
    go_ret
    exact ⟨by rw [V.out]; rfl, (by repeat' (first | (with_reducible exact Below.refl _ _) | (with_reducible refine Below.drew ?_) | (with_reducible refine bo_drewN _ ?_) | (with_reducible refine bo_alloc ?_ _) | (refine bchain ?_ (by with_reducible assumption)) | (with_reducible refine Below.setCell ?_ ?_ _) | go_size))⟩

theorem okM_four {C : List Int} {T : List DTh} (h : ¬ (C.length : Int) = 4) : okM ⟨C, T⟩ = false := by simp only [okM, decide_eq_false h, Bool.false_and]
theorem okM_six {C : List Int} {T : List DTh} (h : ¬ (T.length : Int) ≤ 6) : okM ⟨C, T⟩ = false := by simp only [okM, decide_eq_false h, Bool.false_and, Bool.and_false]
theorem okM_cells {C : List Int} {T : List DTh} (h : C.all (fun c => rng 0 c 1000000) = false) : okM ⟨C, T⟩ = false := by simp only [okM, h, Bool.false_and, Bool.and_false]
theorem okM_ths {C : List Int} {T : List DTh} (h : T.all okTh = false) : okM ⟨C, T⟩ = false := by simp only [okM, h, Bool.false_and, Bool.and_false]
theorem okM_end {C : List Int} {T : List DTh} (h1 : (C.length : Int) = 4) (h2 : (T.length : Int) ≤ 6) (h3 : C.all (fun c => rng 0 c 1000000) = true) (h4 : T.all okTh = true) : okM ⟨C, T⟩ = true := by simp only [okM, decide_eq_true h1, decide_eq_true h2, h3, h4, Bool.and_self]
theorem all_noD {T : List Th} (j : Nat) (hj : j < T.length) (h : okTh T[j].d = false) : (T.map Th.d).all okTh = false := all_no j (by simpa using hj) (by simpa using h)
theorem all_yesD {T : List Th} (h : ∀ j (hj : j < T.length), okTh T[j].d = true) : (T.map Th.d).all okTh = true := all_yes fun j hj => by simpa using h j (by simpa using hj)

set_option maxHeartbeats 2000000 in
theorem implRight (cv tv0 : Value) (cells : List Int) (T : List Th) (w : World) (hrc : Reads w cv cells.length 1 (iv cells)) (hrt : ReadTs w tv0 T) :
    Calls Try.prog 37 #[.agg #[cv, tv0]] w fun x w' => x = .returned (.bool (okM ⟨cells, T.map Th.d⟩)) ∧ Below w.heap.size w w' := by
  have HT := hide hrt.st
  obtain ⟨hl, ad, cap, rfl, h1, h2, h3⟩ := hrc
  obtain ⟨hl', ad', cap', rfl, h1', h2', h3'⟩ := hrt.row
  have H3 := hide h3; have H3' := hide h3'
  clear h3 h3' hrt
  unfold maxLen at h2 h2'
  by_cases h4 : (cells.length : Int) = 4
  · have h4a : 4 ≤ cells.length := by omega
    have h4b : cells.length ≤ 4 := by omega
    have h4c : ((cells.length : Int) != 4) = false := by rw [h4]; rfl
    have D4 := hide h4
    clear h4
    by_cases h6 : (T.length : Int) ≤ 6
    · go_enter Try.func37, Try.ntmps37
      go_wp2_with fail
      go_loop [20] (fun i => ∃ (k : Nat), i = .int .i64 k ∧ k ≤ cells.length ∧ (∀ j (hj : j < cells.length), j < k → rng 0 cells[j] 1000000 = true)) (fun i => cells.length - (intOf i).toNat)
      case atStart => exact ⟨0, rfl, Nat.zero_le _, fun j _ hj => absurd hj (Nat.not_lt_zero _)⟩
      case round =>
        obtain ⟨k, rfl, hk, hall⟩ := hrel
        have HA := hide hall
        clear hall
        by_cases hlt : k < cells.length
        · obtain ⟨b, o, rfl, hbw', hc⟩ := H3.out (by omega)
          have c0 := hc k _ (iv_get cells k (by omega))
          clear hc
          have hbne : b ≠ w.heap.size := by omega
          cases hok : rng 0 (cells[k]'(by omega)) 1000000
          · have V := hide (okM_cells (T := T.map Th.d) (all_no (p := fun c => rng 0 c 1000000) k (by omega) hok))
            go_wp2_with (go_at_call 58; refine (within1 _ _ _ _).mono ?_; rw [hok]; rintro x w' ⟨rfl, rfl⟩)
            go_ret
            exact ⟨by rw [V.out]; rfl, (by repeat' (first | (with_reducible exact Below.refl _ _) | (with_reducible refine Below.drew ?_) | (with_reducible refine bo_drewN _ ?_) | (with_reducible refine bo_alloc ?_ _) | (refine bchain ?_ (by with_reducible assumption)) | (with_reducible refine Below.setCell ?_ ?_ _) | go_size))⟩
          · have HK := hide hok
            go_wp2_with (go_at_call 58; refine (within1 _ _ _ _).mono ?_; rw [hok]; rintro x w' ⟨rfl, rfl⟩)
            go_round
            case rel => exact ⟨k + 1, by go_num, by omega, fun j hj hjk => by
              by_cases hje : j = k
              · subst hje; exact HK.out
              · exact HA.out j hj (by omega)⟩
            case measure => simp [intOf]; omega
        · have HY := hide (all_yes (p := fun c => rng 0 c 1000000) fun j hj => HA.out j hj (by omega))
          go_wp2_with fail
          go_loopw [31] (fun i wr => ∃ (k : Nat), i = .int .i64 k ∧ k ≤ T.length ∧ (∀ j (hj : j < T.length), j < k → okTh T[j].d = true) ∧ Below w.heap.size w wr) (fun i _ => T.length - (intOf i).toNat)
          case atStart => exact ⟨0, rfl, Nat.zero_le _, fun j _ hj => absurd hj (Nat.not_lt_zero _), (by repeat' (first | (with_reducible exact Below.refl _ _) | (with_reducible refine Below.drew ?_) | (with_reducible refine bo_drewN _ ?_) | (with_reducible refine bo_alloc ?_ _) | (refine bchain ?_ (by with_reducible assumption)) | (with_reducible refine Below.setCell ?_ ?_ _) | go_size))⟩
          case round =>
            obtain ⟨k, rfl, hk, hall, hb⟩ := hrel
            have HAT := hide hall
            clear hall
            have hsz := hb.size
            by_cases hlt : k < T.length
            · obtain ⟨b, o, rfl, hbw, hc⟩ := H3'.out (by omega)
              obtain ⟨s0, s1, s2, s3⟩ := tv_get T k hlt
              have hrt := (HT.out _ (List.getElem_mem hlt)).new hb
              obtain ⟨t, htt⟩ : ∃ t, t = T[k] := ⟨_, rfl⟩
              rw [← htt] at s0 s1 s2 s3 hrt
              obtain ⟨ad0, cap0, hsv0, _⟩ := hrt.2
              rw [hsv0] at s0 hrt
              have c0 : World.cell? wr ⟨b, o + k * 4, none⟩ = some (.slice ad0 t.st.length cap0) := (by rw [hb.cell (p := ⟨b, o + k * 4, none⟩) hbw]; exact hc _ _ s0)
              have c1 : World.cell? wr ⟨b, o + k * 4 + 1, none⟩ = some (.int .i64 t.pos) := (by rw [hb.cell (p := ⟨b, o + k * 4 + 1, none⟩) hbw]; exact hc _ _ s1)
              have c2 : World.cell? wr ⟨b, o + k * 4 + 2, none⟩ = some (.int .i64 t.seen) := (by rw [hb.cell (p := ⟨b, o + k * 4 + 2, none⟩) hbw]; exact hc _ _ s2)
              have c3 : World.cell? wr ⟨b, o + k * 4 + 3, none⟩ = some (.int .i64 t.won) := (by rw [hb.cell (p := ⟨b, o + k * 4 + 3, none⟩) hbw]; exact hc _ _ s3)
              have HR := hide hrt; have HTT := hide htt
              have hbne : b < wr.heap.size := by omega
              clear hc s0 s1 s2 s3 hrt htt hsv0
              cases hok : okTh t.d
              · have V := hide (okM_ths (C := cells) (all_noD k hlt (by rw [← HTT.out]; exact hok)))
                go_wp2_with fail
                refine (implThread t.d _ _ (HR.out.alloc _)).mono ?_; rw [hok]; rintro x w1 ⟨rfl, hb1⟩
                go_wp2_with fail
                go_ret
                exact ⟨by rw [V.out]; rfl, (by repeat' (first | (with_reducible exact Below.refl _ _) | (with_reducible refine Below.drew ?_) | (with_reducible refine bo_drewN _ ?_) | (with_reducible refine bo_alloc ?_ _) | (refine bchain ?_ (by with_reducible assumption)) | (with_reducible refine Below.setCell ?_ ?_ _) | go_size))⟩
              · have HK := hide hok
                go_wp2_with fail
                refine (implThread t.d _ _ (HR.out.alloc _)).mono ?_; rw [hok]; rintro x w1 ⟨rfl, hb1⟩
                go_wp2_with fail
                go_roundw
                case rel => exact ⟨k + 1, by go_num, by omega, fun j hj hjk => by
                  by_cases hje : j = k
                  · subst hje; rw [← HTT.out]; exact HK.out
                  · exact HAT.out j hj (by omega), (by repeat' (first | (with_reducible exact Below.refl _ _) | (with_reducible refine Below.drew ?_) | (with_reducible refine bo_drewN _ ?_) | (with_reducible refine bo_alloc ?_ _) | (refine bchain ?_ (by with_reducible assumption)) | (with_reducible refine Below.setCell ?_ ?_ _) | go_size))⟩
                case measure => simp [intOf]; omega
            · have V := hide (okM_end D4.out (by simpa using h6) HY.out (all_yesD fun j hj => HAT.out j hj (by omega)))
              go_wp2_with fail
              go_ret
              exact ⟨by rw [V.out]; rfl, hb⟩
    · have V := hide (okM_six (C := cells) (T := T.map Th.d) (by simpa using h6))
      go_enter Try.func37, Try.ntmps37
      go_wp2_with fail
      go_ret
      exact ⟨by rw [V.out]; rfl, (by repeat' (first | (with_reducible exact Below.refl _ _) | (with_reducible refine Below.drew ?_) | (with_reducible refine bo_drewN _ ?_) | (with_reducible refine bo_alloc ?_ _) | (refine bchain ?_ (by with_reducible assumption)) | (with_reducible refine Below.setCell ?_ ?_ _) | go_size))⟩
  · have V := hide (okM_four (T := T.map Th.d) h4)
    have h4' : ((cells.length : Int) != 4) = true := by simpa using h4
    go_enter Try.func37, Try.ntmps37
    go_wp2_with fail
    go_ret
    exact ⟨by rw [V.out]; rfl, (by repeat' (first | (with_reducible exact Below.refl _ _) | (with_reducible refine Below.drew ?_) | (with_reducible refine bo_drewN _ ?_) | (with_reducible refine bo_alloc ?_ _) | (refine bchain ?_ (by with_reducible assumption)) | (with_reducible refine Below.setCell ?_ ?_ _) | go_size))⟩
end Go.Proofs.Ytdplpkobpoiioaa
