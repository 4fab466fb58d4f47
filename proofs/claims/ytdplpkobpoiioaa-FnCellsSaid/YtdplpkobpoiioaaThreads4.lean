/- Rows of Threads: marked, and read again. -/
import Derived.Test.YtdplpkobpoiioaaThreads3

namespace Go.Proofs.Ytdplpkobpoiioaa
open Go.RowKit
set_option linter.unusedSimpArgs false
set_option linter.unusedVariables false

def cntT : List Th → Int
  | [] => 0
  | t :: T => t.st.length * 3 + 3 + cntT T
theorem cntT_app (A B : List Th) : cntT (A ++ B) = cntT A + cntT B := by
  induction A with
  | nil => simp [cntT]
  | cons a A ih => simp [cntT, ih]; omega
theorem cntT_nn (A : List Th) : 0 ≤ cntT A := by
  induction A with
  | nil => simp [cntT]
  | cons a A ih => simp [cntT]; omega
theorem cntT_take (T : List Th) (k : Nat) (h : k < T.length) : cntT (T.take (k + 1)) = cntT (T.take k) + T[k].st.length * 3 + 3 := by
  rw [List.take_succ_eq_append_getElem h, cntT_app]; simp [cntT]; omega
theorem cntT_le (T : List Th) (k : Nat) : cntT (T.take k) ≤ cntT T := by
  have h : cntT T = cntT (T.take k) + cntT (T.drop k) := by rw [← cntT_app, List.take_append_drop]
  have := cntT_nn (T.drop k)
  omega
theorem cntT_sz (T : List Th) : cntT T = szT T * 3 + T.length * 3 := by
  induction T with
  | nil => simp [cntT, szT]
  | cons a A ih => simp [cntT, szT, ih]; omega

def mkTh (t : Th) (k : Int) : Th := ⟨t.sv, t.st, k + t.st.length * 3, k + t.st.length * 3 + 1, k + t.st.length * 3 + 1 + 1⟩
def markTs (T : List Th) (k : Int) : List Th := T.mapIdx fun i t => mkTh t (k + cntT (T.take i))
theorem markTs_len (T : List Th) (k : Int) : (markTs T k).length = T.length := by simp [markTs]
theorem markTs_get (T : List Th) (k : Int) (i : Nat) (h : i < T.length) : (markTs T k)[i]'(by rw [markTs_len]; exact h) = mkTh T[i] (k + cntT (T.take i)) := by simp [markTs]

/-- The marks from k on lie in the row and in what it leads to. -/
structure HeldTs (w : World) (v : Value) (T : List Th) (k : Int) : Prop where
  row : Reads w v T.length 4 (tv (markTs T k))
  st : ∀ i (h : i < T.length), Reads w T[i].sv T[i].st.length 3 (mk (k + cntT (T.take i)) (T[i].st.length * 3))
theorem HeldTs.new {w w' : World} {v : Value} {T : List Th} {k : Int} (h : HeldTs w v T k) (hb : Below w.heap.size w w') : HeldTs w' v T k := ⟨h.row.new hb, fun i hi => (h.st i hi).new hb⟩

set_option maxHeartbeats 1000000 in
theorem heldThreads (T : List Th) (k : Int) (v : Value) (w : World) (hr : HeldTs w v T k) (hk0 : 0 ≤ k) (hk1 : k + cntT T ≤ 1000000000) :
    Calls Try.prog 55 #[v, .int .i64 k] w fun x w' => x = .returned (.int .i64 (k + cntT T)) ∧ w' = w := by
  have HT := hide hr.st
  obtain ⟨hl, ad, cap, rfl, h2, h3, h4⟩ := hr.row
  have H4 := hide h4
  clear h4 hr
  unfold maxLen at h3
  go_enter Try.func55, Try.ntmps55
  go_wp2_with fail
  go_loop [1, 5] (fun kk i => ∃ (j : Nat), i = .int .i64 j ∧ kk = .int .i64 (k + cntT (T.take j)) ∧ j ≤ T.length) (fun _ i => T.length - (intOf i).toNat)
  case atStart => exact ⟨0, rfl, by simp [cntT], Nat.zero_le _⟩
  case round =>
    obtain ⟨j, rfl, rfl, hj⟩ := hrel
    by_cases hlt : j < T.length
    · obtain ⟨b, o, rfl, hbw, hc⟩ := H4.out (by omega)
      obtain ⟨s0, s1, s2, s3⟩ := tv_get (markTs T k) j (by rw [markTs_len]; exact hlt)
      rw [markTs_get T k j hlt] at s0 s1 s2 s3
      have hrt := HT.out j hlt
      have hsn := cntT_take T j hlt
      have hnn := cntT_nn (T.take j)
      have hle := cntT_le T (j + 1)
      obtain ⟨t, htt⟩ : ∃ t, t = T[j] := ⟨_, rfl⟩
      rw [← htt] at s0 s1 s2 s3 hrt hsn
      generalize hq : cntT (List.take j T) = q at *
      generalize hq' : cntT (List.take (j + 1) T) = q' at *
      have HQ := hide hq'
      clear hq hq' htt
      obtain ⟨sv0, st, p, s, n⟩ := t
      simp only [mkTh] at s0 s1 s2 s3 hrt hsn
      obtain ⟨ad0, cap0, rfl, _⟩ := hrt.2
      have c0 := hc _ _ s0
      have c1 := hc _ _ s1
      have c2 := hc _ _ s2
      have c3 := hc _ _ s3
      simp only [← Nat.add_assoc] at c1 c2 c3
      have HR := hide hrt
      clear hc s0 s1 s2 s3 hrt
      go_wp2_with fail
      refine (heldSteps st.length (k + q) _ _ HR.out (by omega) (by omega)).mono ?_
      rintro x w1 ⟨rfl, rfl⟩
      go_wp2_with fail
      go_round
      case rel => exact ⟨j + 1, by go_num, int_eq (by rw [HQ.out]; omega), by omega⟩
      case measure => simp [intOf]; omega
    · obtain rfl : j = T.length := by omega
      rw [List.take_length] at *
      go_wp2_with fail
      go_ret
      exact ⟨rfl, rfl⟩

theorem ap_self {v : Value} {T : List Th} (h : (v :: T.map Th.sv).Pairwise Ap) : (∀ t ∈ T, Ap v t.sv) ∧ ∀ i j (hi : i < T.length) (hj : j < T.length), i < j → Ap T[i].sv T[j].sv := by
  obtain ⟨h1, h2⟩ := List.pairwise_cons.1 h
  refine ⟨fun t ht => h1 _ (List.mem_map_of_mem ht), fun i j hi hj hij => ?_⟩
  have := List.pairwise_iff_getElem.1 h2 i j (by simpa using hi) (by simpa using hj) hij
  simpa using this
theorem Ap.symm {a b : Value} (h : Ap a b) : Ap b a := fun k hb ha => h k ha hb

set_option maxHeartbeats 2000000 in
theorem markThreads (T : List Th) (k : Int) (v : Value) (lo hi : Nat) (w : World) (ho : OwnTs w lo hi v T) (hk0 : 0 ≤ k) (hk1 : k + cntT T ≤ 1000000000) :
    Calls Try.prog 53 #[v, .int .i64 k] w fun x w' => x = .returned (.int .i64 (k + cntT T)) ∧ HeldTs w' v T k ∧ Turn lo hi w w' ∧ (∀ b, b < w.heap.size → (∀ u ∈ v :: T.map Th.sv, u.ownBlock ≠ some b) → w'.heap[b]? = w.heap[b]?) := by
  obtain ⟨ad, cap, rfl, h1, h2⟩ := owns_form ho.row
  unfold maxLen at h2
  have HO := hide ho
  have HA := hide (ap_self ho.apart)
  clear ho
  go_enter Try.func53, Try.ntmps53
  go_wp2_with fail
  go_loopw [1, 5] (fun kk i wr => ∃ (j : Nat) (ys : List Value), i = .int .i64 j ∧ kk = .int .i64 (k + cntT (T.take j)) ∧ j ≤ T.length ∧ wr.ownsRow lo 41 4 (.slice ad T.length cap) T.length ys ∧ (∀ t, t < j * 4 → ys[t]? = (tv (markTs T k))[t]?) ∧ (∀ t, j * 4 ≤ t → ys[t]? = (tv T)[t]?) ∧
    (∀ i (h : i < T.length), i < j → wr.ownsRow lo 44 3 T[i].sv T[i].st.length (mk (k + cntT (T.take i)) (T[i].st.length * 3))) ∧ (∀ i (h : i < T.length), j ≤ i → wr.ownsRow lo 44 3 T[i].sv T[i].st.length (sv T[i].st)) ∧ Turn lo hi w wr ∧ (∀ b, b < w.heap.size → (∀ u ∈ Value.slice ad T.length cap :: T.map Th.sv, u.ownBlock ≠ some b) → wr.heap[b]? = w.heap[b]?)) (fun _ i _ => T.length - (intOf i).toNat)
  case atStart => exact ⟨0, _, rfl, by simp [cntT], Nat.zero_le _, HO.out.row, fun t ht => absurd ht (by omega), fun t _ => rfl, fun i _ h => absurd h (Nat.not_lt_zero _), fun i h _ => HO.out.st _ (List.getElem_mem h), Turn.refl _ _ _, fun _ _ _ => rfl⟩
  case round =>
    obtain ⟨j, ys, rfl, rfl, hj, hown, hy, hy', hst, hst', ht, hoth⟩ := hrel
    have HOTH := hide hoth
    clear hoth
    by_cases hlt : j < T.length
    · obtain ⟨s0, s1, s2, s3⟩ := tv_get T j hlt
      obtain ⟨m0, m1, m2, m3⟩ := tv_get (markTs T k) j (by rw [markTs_len]; exact hlt)
      rw [markTs_get T k j hlt] at m0 m1 m2 m3
      have hrt := hst' j hlt (Nat.le_refl _)
      have hsn := cntT_take T j hlt
      have hnn := cntT_nn (T.take j)
      have hle := cntT_le T (j + 1)
      obtain ⟨g, cap', e1, e2, e3, e4, _, _, e5, e6⟩ := owns_open hown (by omega)
      simp only [Value.slice.injEq] at e1
      obtain ⟨rfl, _, rfl⟩ := e1
      have hmk : ∀ r : Int, r = k + cntT (T.take j) → Hid (∀ wx : World, (∀ i (h : i < T.length), i < j → wx.ownsRow lo 44 3 T[i].sv T[i].st.length (mk (k + cntT (T.take i)) (T[i].st.length * 3))) → wx.ownsRow lo 44 3 T[j].sv T[j].st.length (mk r (T[j].st.length * 3)) → ∀ i (h : i < T.length), i < j + 1 → wx.ownsRow lo 44 3 T[i].sv T[i].st.length (mk (k + cntT (T.take i)) (T[i].st.length * 3))) := by
        rintro r rfl wx hx1 hx2 i hi hij
        by_cases hie : i = j
        · subst hie; exact hx2
        · exact hx1 i hi (by omega)
      have hapj : ∀ i (h : i < T.length), i ≠ j → Ap T[j].sv T[i].sv := fun i hi hne => by
        by_cases hij : i < j
        · exact (HA.out.2 i j hi hlt hij).symm
        · exact HA.out.2 j i hlt hi (by omega)
      have hapv : ∀ i (h : i < T.length), Ap (Value.slice (some ⟨g, 0, none⟩) T.length cap) T[i].sv := fun i hi => HA.out.1 _ (List.getElem_mem hi)
      have hup : ∀ b, T[j].sv.ownBlock = some b → lo ≤ b ∧ b < hi := fun b hb => ⟨((HO.out.st _ (List.getElem_mem hlt)).lt b hb).1, HO.out.up _ (List.mem_cons_of_mem _ (List.mem_map_of_mem (List.getElem_mem hlt))) b hb⟩
      have hgv : lo ≤ g ∧ g < hi := ⟨e3, HO.out.up _ List.mem_cons_self g rfl⟩
      obtain ⟨t, htt⟩ : ∃ t, t = T[j] := ⟨_, rfl⟩
      generalize hq : cntT (List.take j T) = q at *
      generalize hq' : cntT (List.take (j + 1) T) = q' at *
      have HMK := hmk _ rfl
      rw [← htt] at s0 s1 s2 s3 m0 m1 m2 m3 hrt hsn HMK hapj hup
      have HQ := hide hq'
      have hvt : Ap (Value.slice (some ⟨g, 0, none⟩) T.length cap) t.sv := by rw [htt]; exact hapv j hlt
      have hmemj : t.sv ∈ Value.slice (some ⟨g, 0, none⟩) T.length cap :: T.map Th.sv := by rw [htt]; exact List.mem_cons_of_mem _ (List.mem_map_of_mem (List.getElem_mem hlt))
      obtain ⟨sv0, st, p, s, n⟩ := t
      simp only [mkTh] at s0 s1 s2 s3 m0 m1 m2 m3 hrt hsn hvt HMK hapj hup hmemj
      obtain ⟨ad0, cap0, hform, _⟩ := owns_form hrt
      subst hform
      have c0 := e5 (j * 4) _ (by rw [hy' _ (Nat.le_refl _)]; exact s0)
      have HR := hide hrt; have HOwn := hide hown; have HY := hide hy; have HY' := hide hy'; have HST := hide hst; have HST' := hide hst'; have HAJ := hide hapj; have HAV := hide hapv; have HUP := hide hup; have HVT := hide hvt; have HMJ := hide hmemj
      have M0 := hide m0; have M1 := hide m1; have M2 := hide m2; have M3 := hide m3; have S0 := hide s0; have HTT := hide htt
      clear hrt hown hy hy' hst hst' hapj hapv hup hvt m0 m1 m2 m3 s0 s1 s2 s3 hq hq' hmk htt e2 e5 hmemj
      go_wp2_with fail
      refine (markSteps st.length (k + q) _ _ lo _ HR.out (by omega) (by omega)).mono ?_
      rintro x w1 ⟨rfl, ho1, hg1⟩
      have hown1 : w1.ownsRow lo 41 4 (.slice (some ⟨g, 0, none⟩) T.length cap) T.length ys := HOwn.out.kept hg1 (.inr (fun e => HVT.out g rfl (by rw [← e]; rfl)))
      have hs1 := hg1.size
      have ht1 : Turn lo hi w w1 := ht.trans (turn_grown (g := 0) hg1 HUP.out)
      obtain ⟨g', cap', e1, e2, e3', e4', _, _, e5, e6'⟩ := owns_open hown1 (by omega)
      simp only [Value.slice.injEq, Option.some.injEq, Addr.mk.injEq] at e1
      obtain ⟨⟨rfl, _, _⟩, _, rfl⟩ := e1
      have hl1 := hown1.1
      obtain ⟨u1, hu1⟩ : ∃ u, w1.cell? ⟨g, j * 4 + 1, none⟩ = some u := ⟨_, e5 _ _ (List.getElem?_eq_getElem (by omega))⟩
      obtain ⟨u2, hu2⟩ : ∃ u, w1.cell? ⟨g, j * 4 + 2, none⟩ = some u := ⟨_, e5 _ _ (List.getElem?_eq_getElem (by omega))⟩
      obtain ⟨u3, hu3⟩ : ∃ u, w1.cell? ⟨g, j * 4 + 3, none⟩ = some u := ⟨_, e5 _ _ (List.getElem?_eq_getElem (by omega))⟩
      clear e5 e2
      have HO1 := hide hown1; have HO2 := hide ho1; have HG1 := hide hg1
      clear hown1 ho1 hg1
      go_wp2_with fail
      have pre0 : ∀ t, t < j * 4 + 1 → ys[t]? = (tv (markTs T k))[t]? := fun t ht => by
        by_cases h : t < j * 4
        · exact HY.out t h
        · obtain rfl : t = j * 4 := by omega
          rw [HY'.out _ (Nat.le_refl _), S0.out, M0.out]
      have far : ∀ (u : Value) (n' : Nat) (xs : List Value), Ap (Value.slice (some ⟨g, 0, none⟩) T.length cap) u → w1.ownsRow lo 44 3 u n' xs → ∀ a1 a2 a3 : Value, (((w1.setCell ⟨g, j * 4 + 1, none⟩ a1).setCell ⟨g, j * 4 + 2, none⟩ a2).setCell ⟨g, j * 4 + 3, none⟩ a3).ownsRow lo 44 3 u n' xs :=
        fun u n' xs ha h a1 a2 a3 => owns_apart (owns_apart (owns_apart h _ _ (ha g rfl)) _ _ (ha g rfl)) _ _ (ha g rfl)
      have kept : ∀ i (h : i < T.length), i ≠ j → ∀ (n' : Nat) (xs : List Value), wr.ownsRow lo 44 3 T[i].sv n' xs → w1.ownsRow lo 44 3 T[i].sv n' xs := fun i hi hne n' xs h => by
        refine h.kept HG1.out ?_
        cases hob : T[i].sv.ownBlock with
        | none => exact .inl rfl
        | some b => exact .inr (fun e => HAJ.out i hi hne b e.symm hob)
      refine ⟨⟨j + 1, _, ?_, ?_, ?_, owns_set (g := g) (owns_set (g := g) (owns_set (g := g) HO1.out rfl _ _) rfl _ _) rfl _ _, ?_, ?_, ?_, ?_, ?_, ?_⟩, ?_⟩
      · go_num
      · exact int_eq (by rw [HQ.out]; omega)
      · omega
      · exact pre_set ((j + 1) * 4) (pre_set (j * 4 + 3) (pre_set (j * 4 + 2) pre0 M1.out (by omega) rfl) M2.out (by simp; omega) rfl) M3.out (by simp; omega) (by omega)
      · intro t ht
        rw [List.getElem?_set_ne (by omega), List.getElem?_set_ne (by omega), List.getElem?_set_ne (by omega)]
        exact HY'.out t (by omega)
      · exact HMK.out _ (fun i hi hij => far _ _ _ (HAV.out i hi) (kept i hi (by omega) _ _ (HST.out i hi hij)) _ _ _) (far _ _ _ HVT.out HO2.out _ _ _)
      · intro i hi hij
        exact far _ _ _ (HAV.out i hi) (kept i hi (by omega) _ _ (HST'.out i hi (by omega))) _ _ _
      · exact ((ht1.setCell _ (.inl hgv)).setCell _ (.inl hgv)).setCell _ (.inl hgv)
      · intro b hb hu
        have hbg : b ≠ g := fun e => hu _ List.mem_cons_self (by rw [e]; rfl)
        have hszr := ht.size
        rw [Below.heap_setCell _ _ _ b hbg, Below.heap_setCell _ _ _ b hbg, Below.heap_setCell _ _ _ b hbg, HG1.out.block b (by omega) (fun e => hu _ HMJ.out e.symm)]
        exact HOTH.out b hb hu
      · simp [intOf]; omega
    · obtain rfl : j = T.length := by omega
      have hys : ys = tv (markTs T k) := pre_end hown.1 (by rw [tv_len, markTs_len]) hy
      subst hys
      have HF : Hid (HeldTs wr (.slice ad T.length cap) T k) := ⟨reads_of_owns hown, fun i hi => reads_of_owns (hst i hi hi)⟩
      clear hown hy hy' hst hst'
      rw [List.take_length] at *
      go_wp2_with fail
      go_ret
      exact ⟨rfl, HF.out, ht, HOTH.out⟩
end Go.Proofs.Ytdplpkobpoiioaa
