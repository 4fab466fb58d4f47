/- Rows of Threads: copied. -/
import Derived.Test.YtdplpkobpoiioaaThreads

namespace Go.Proofs.Ytdplpkobpoiioaa
open Go.RowKit
set_option linter.unusedSimpArgs false
set_option linter.unusedVariables false

theorem take_ap {T' : List Th} {t : Th} {v : Value} (h : (v :: T'.map Th.sv).Pairwise Ap) (hb : ∀ u ∈ v :: T'.map Th.sv, Ap u t.sv) : (v :: (T' ++ [t]).map Th.sv).Pairwise Ap := by
  rw [List.map_append, ← List.cons_append]
  exact List.pairwise_append.2 ⟨h, by simp, fun a ha b hb' => by simp at hb'; subst hb'; exact hb a ha⟩
theorem tv_app (T' : List Th) (t : Th) (j : Nat) (h : j < T'.length * 4) : (tv (T' ++ [t]))[j]? = (tv T')[j]? := by
  unfold tv; rw [List.flatMap_append, List.getElem?_append_left (by have := tv_len T'; unfold tv at this; omega)]
theorem tv_new (T' : List Th) (t : Th) (k : Nat) (hk : T'.length = k) : (tv (T' ++ [t]))[k * 4]? = some t.sv ∧ (tv (T' ++ [t]))[k * 4 + 1]? = some (.int .i64 t.pos) ∧ (tv (T' ++ [t]))[k * 4 + 2]? = some (.int .i64 t.seen) ∧ (tv (T' ++ [t]))[k * 4 + 3]? = some (.int .i64 t.won) := by
  have h := tv_get (T' ++ [t]) k (by simp; omega)
  have e : (T' ++ [t])[k]'(by simp; omega) = t := by simp [← hk]
  rw [e] at h
  exact h

set_option maxHeartbeats 2000000 in
theorem toThreads (T : List Th) (v : Value) (w : World) (hr0 : ReadTs w v T) (hL : T.length ≤ 1048576) (hS : ∀ t ∈ T, t.st.length ≤ 1048576) :
    Calls Try.prog 51 #[v] w fun x w' => ∃ v' T', x = .returned v' ∧ T'.map Th.d = T.map Th.d ∧ OwnTs w' w.heap.size w'.heap.size v' T' ∧ Below w.heap.size w w' := by
  obtain ⟨M, hM, hmk⟩ := make_row 25 41 (.agg #[.slice none 0 0, .int .i64 0, .int .i64 0, .int .i64 0]) 4 48 Try.underlying25 (by kernel_rfl) rfl (by decide) (by decide) T.length hL
  have HT := hide hr0.st
  have HS := hide hS
  obtain ⟨hl, ad, cap, rfl, h1, h2, h3⟩ := hr0.row
  have ho := owns_made w M 41 4 T.length hM hL
  have H3 := hide h3
  clear h3 hr0 hS
  unfold maxLen at h2
  go_enter Try.func51, Try.ntmps51
  go_wp2_with fail
  go_loopw [4] (fun i wr => ∃ (k : Nat) (T' : List Th) (xs : List Value), i = .int .i64 k ∧ k ≤ T.length ∧ Hid (T'.length = k) ∧ T'.map Th.d = (T.take k).map Th.d ∧ wr.ownsRow w.heap.size 41 4 (.slice (some ⟨w.heap.size, 0, none⟩) T.length T.length) T.length xs ∧ (∀ j, j < k * 4 → xs[j]? = (tv T')[j]?) ∧
    (∀ t ∈ T', wr.ownsRow (w.heap.size + 1) 44 3 t.sv t.st.length (sv t.st)) ∧ ((Value.slice (some ⟨w.heap.size, 0, none⟩) T.length T.length) :: T'.map Th.sv).Pairwise Ap ∧ Below w.heap.size w wr ∧ w.heap.size < wr.heap.size) (fun i _ => T.length - (intOf i).toNat)
  case atStart => exact ⟨0, [], _, rfl, Nat.zero_le _, rfl, rfl, ho, fun j hj => absurd hj (by simp), fun t ht => absurd ht (by simp), by simp, (Below.refl _ _).alloc (Nat.le_refl _) _, by simp⟩
  case round =>
    obtain ⟨k, T', xs, rfl, hk, HK, hd, hown, hx, hst, hap, hb, hsz⟩ := hrel
    by_cases hlt : k < T.length
    · obtain ⟨b, o, rfl, hbw, hc⟩ := H3.out (by omega)
      obtain ⟨s0, s1, s2, s3⟩ := tv_get T k hlt
      have hmem : T[k] ∈ T := List.getElem_mem hlt
      have hrt := (HT.out _ hmem).new hb
      have hrl := HS.out _ hmem
      have hdd : Hid (∀ u : Value, (T' ++ [Th.mk u T[k].st T[k].pos T[k].seen T[k].won]).map Th.d = (T.take (k + 1)).map Th.d) := fun u => by
        rw [List.map_append, hd, List.take_succ_eq_append_getElem hlt, List.map_append]; rfl
      obtain ⟨t, htt⟩ : ∃ t, t = T[k] := ⟨_, rfl⟩
      rw [← htt] at s0 s1 s2 s3 hrt hrl hdd
      obtain ⟨ad0, cap0, hsv0, _⟩ := hrt.2
      rw [hsv0] at s0
      have c0 : World.cell? wr ⟨b, o + k * 4, none⟩ = some (.slice ad0 t.st.length cap0) := (by rw [hb.cell (p := ⟨b, o + k * 4, none⟩) hbw]; exact hc _ _ s0)
      have c1 : World.cell? wr ⟨b, o + k * 4 + 1, none⟩ = some (.int .i64 t.pos) := (by rw [hb.cell (p := ⟨b, o + k * 4 + 1, none⟩) hbw]; exact hc _ _ s1)
      have c2 : World.cell? wr ⟨b, o + k * 4 + 2, none⟩ = some (.int .i64 t.seen) := (by rw [hb.cell (p := ⟨b, o + k * 4 + 2, none⟩) hbw]; exact hc _ _ s2)
      have c3 : World.cell? wr ⟨b, o + k * 4 + 3, none⟩ = some (.int .i64 t.won) := (by rw [hb.cell (p := ⟨b, o + k * 4 + 3, none⟩) hbw]; exact hc _ _ s3)
      have HX := hide hx; have HOwn := hide hown; have HST := hide hst; have HAP := hide hap; have HRT := hide hrt; have HSV := hide hsv0
      clear hx hown hst hap hrt hc s0 s1 s2 s3 hd hsv0 htt hmem
      go_wp2_with fail
      have hcall := toThread1 t wr HRT.out hrl
      rw [HSV.out] at hcall
      refine hcall.mono ?_
      clear hcall c0 c1 c2 c3
      rintro x w1 ⟨v1, rfl, ho1, hb1⟩
      have hown1 := owns_new HOwn.out hb1
      have hbb := bchain hb hb1
      have hs1 := hb1.size
      obtain ⟨g, cap', e1, e2, e3, e4, _, _, e5, e6⟩ := owns_open hown1 (by omega)
      simp only [Value.slice.injEq, Option.some.injEq, Addr.mk.injEq] at e1
      obtain ⟨⟨rfl, _, _⟩, _, rfl⟩ := e1
      have hl1 := hown1.1
      obtain ⟨u0, hu0⟩ : ∃ u, w1.cell? ⟨w.heap.size, k * 4, none⟩ = some u := ⟨_, e5 _ _ (List.getElem?_eq_getElem (by omega))⟩
      obtain ⟨u1, hu1⟩ : ∃ u, w1.cell? ⟨w.heap.size, k * 4 + 1, none⟩ = some u := ⟨_, e5 _ _ (List.getElem?_eq_getElem (by omega))⟩
      obtain ⟨u2, hu2⟩ : ∃ u, w1.cell? ⟨w.heap.size, k * 4 + 2, none⟩ = some u := ⟨_, e5 _ _ (List.getElem?_eq_getElem (by omega))⟩
      obtain ⟨u3, hu3⟩ : ∃ u, w1.cell? ⟨w.heap.size, k * 4 + 3, none⟩ = some u := ⟨_, e5 _ _ (List.getElem?_eq_getElem (by omega))⟩
      obtain ⟨n0, n1, n2, n3⟩ := tv_new T' ⟨v1, t.st, t.pos, t.seen, t.won⟩ k HK.out
      have HO := hide (owns_set (g := w.heap.size) (owns_set (g := w.heap.size) (owns_set (g := w.heap.size) (owns_set (g := w.heap.size) hown1 rfl (k * 4) v1) rfl (k * 4 + 1) (.int .i64 t.pos)) rfl (k * 4 + 2) (.int .i64 t.seen)) rfl (k * 4 + 3) (.int .i64 t.won))
      have HP := hide (pre_set ((k + 1) * 4) (pre_set (k * 4 + 3) (pre_set (k * 4 + 2) (pre_set (k * 4 + 1) (fun j hj => (HX.out j hj).trans (tv_app T' ⟨v1, t.st, t.pos, t.seen, t.won⟩ j (by rw [HK.out]; exact hj)).symm) n0 (by omega) rfl) n1 (by simp; omega) rfl) n2 (by simp; omega) rfl) n3 (by simp; omega) (by omega))
      have hv1 : ∀ j, v1.ownBlock = some j → wr.heap.size ≤ j := fun j hj => (ho1.lt j hj).1
      have HAP2 : Hid (((Value.slice (some ⟨w.heap.size, 0, none⟩) T.length T.length) :: (T' ++ [Th.mk v1 t.st t.pos t.seen t.won]).map Th.sv).Pairwise Ap) := by
        refine take_ap HAP.out fun u hu j hj => ?_
        intro h'
        have h3 := hv1 j h'
        simp only [List.mem_cons, List.mem_map] at hu
        rcases hu with rfl | ⟨t', ht', rfl⟩
        · simp [Value.ownBlock] at hj; omega
        · have := ((HST.out t' ht').lt j hj).2; omega
      have HST2 : Hid (∀ t' ∈ T' ++ [Th.mk v1 t.st t.pos t.seen t.won], w1.ownsRow (w.heap.size + 1) 44 3 t'.sv t'.st.length (sv t'.st)) := by
        intro t' ht'
        rcases List.mem_append.1 ht' with h | h
        · exact owns_new (HST.out t' h) hb1
        · simp at h; subst h; exact owns_base ho1 fun j hj => by have := hv1 j hj; omega
      obtain ⟨ad1, cap1, rfl, _⟩ := owns_form ho1
      clear e5 e2 hown1 n0 n1 n2 n3 ho1 hv1
      go_wp2_with fail
      refine ⟨⟨k + 1, _, _, ?_, ?_, ?_, hdd.out _, HO.out, HP.out, ?_, HAP2.out, ?_, ?_⟩, ?_⟩
      · go_num
      · omega
      · show _ = _; rw [List.length_append, HK.out]; rfl
      · intro t' ht'
        have hh := HST2.out t' ht'
        have hlo : ∀ j, t'.sv.ownBlock = some j → w.heap.size + 1 ≤ j := fun j hj => (hh.lt j hj).1
        exact (by repeat' (first | (with_reducible exact hh) | (with_reducible refine owns_far _ ?_ hlo _ _ ?_) | (with_reducible refine World.ownsRow.alloc ?_ _) | (simp; done) | (simp; omega)))
      · exact (((hbb.setCell (by simp) _).setCell (by simp) _).setCell (by simp) _).setCell (by simp) _
      · simp; omega
      · simp [intOf]; omega
    · obtain rfl : k = T.length := by omega
      have hxs : xs = tv T' := pre_end hown.1 (by rw [tv_len, HK.out]) hx
      subst hxs
      rw [List.take_length] at hd
      have hfin : OwnTs wr w.heap.size wr.heap.size (.slice (some ⟨w.heap.size, 0, none⟩) T.length T.length) T' := by
        refine ⟨by rw [HK.out]; exact hown, fun t ht => owns_base (hst t ht) fun j hj => by have := ((hst t ht).lt j hj).1; omega, hap, fun u hu j hj => ?_⟩
        simp only [List.mem_cons, List.mem_map] at hu
        rcases hu with rfl | ⟨t', ht', rfl⟩
        · simp [Value.ownBlock] at hj; omega
        · exact ((hst t' ht').lt j hj).2
      have HF := hide hfin; have HD := hide hd
      clear hown hx hst hap hd hfin
      go_wp2_with fail
      go_ret
      exact ⟨_, _, rfl, HD.out, HF.out, hb⟩
end Go.Proofs.Ytdplpkobpoiioaa
