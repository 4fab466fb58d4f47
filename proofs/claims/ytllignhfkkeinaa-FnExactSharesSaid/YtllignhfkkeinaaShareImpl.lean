/- Chapter 13's program: areWants, lacksOf, leastOf, handOut, Shares, Level. -/
import Derived.Test.YtllignhfkkeinaaShareSpec
import Derived.Test.YtllignhfkkeinaaShareLack
import Derived.Test.YtllignhfkkeinaaAppRows
import Derived.Lib.MinMax



namespace Go.Proofs.Ytllignhfkkeinaa
open Go.RowKit
set_option maxRecDepth 100000
set_option linter.unusedSimpArgs false
set_option linter.unusedVariables false
set_option maxHeartbeats 1000000 in
theorem slicesMax (s : List Int) (v : Value) (w : World) (hr0 : Reads w v s.length 1 (iv s)) (hs : 0 < s.length) : Calls Try.prog 19 #[v] w fun x w' => x = .returned (.int .i64 (maxL (s.drop 1) s[0])) ∧ w' = w := by
  obtain ⟨hl, ad, cap, rfl, h1, h2, h3⟩ := hr0
  unfold maxLen at h2
  obtain ⟨b, o, rfl, hbw, hc⟩ := h3 (by omega)
  have hc0 := hc 0 _ (iv_get s 0 hs)
  have HC := hide hc
  obtain ⟨a, ha⟩ : ∃ a, s[0] = a := ⟨_, rfl⟩
  rw [ha] at hc0 ⊢
  have hs1 : ¬ ((s.length : Int) < 1) := by omega
  have hsI : (0 : Int) < s.length := by omega
  obtain ⟨A, hA⟩ : ∃ A, maxL (s.drop 1) a = A := ⟨_, rfl⟩
  rw [hA]
  have HA0 := hide hA
  clear hA hc h3 ha
  rw [Nat.add_zero] at hc0
  go_enter Try.func19, Try.ntmps19
  go_wp2_with fail
  go_loop [3, 4] (fun m i => ∃ (k : Nat) (n : Int), i = .int .i64 k ∧ m = .int .i64 n ∧ k ≤ s.length ∧ Hid (maxL (s.drop k) n = A)) (fun _ i => s.length - (intOf i).toNat)
  case atStart => exact ⟨1, a, rfl, rfl, hs, HA0⟩
  case round =>
    clear HA0
    obtain ⟨k, n, rfl, rfl, hk, HA⟩ := hrel
    by_cases hlt : k < s.length
    · have hck := HC.out k _ (iv_get s k hlt)
      have HE := HA.out
      rw [maxL_drop hlt, ← max_if] at HE
      obtain ⟨e, he⟩ : ∃ e, s[k] = e := ⟨_, rfl⟩
      rw [he] at hck HE
      replace HE := hide HE
      clear he
      go_wp2_with fail
      go_round
      case rel => exact ⟨k + 1, _, by go_num, rfl, by omega, HE⟩
      case measure => simp [intOf]; omega
    · have HE : Hid (n = A) := by have := HA.out; rw [maxL_end (by omega)] at this; exact this
      go_wp2_with fail
      go_ret
      exact ⟨by rw [← HE.out]; rfl, rfl⟩
set_option maxHeartbeats 1000000 in
theorem slicesMin (s : List Int) (v : Value) (w : World) (hr0 : Reads w v s.length 1 (iv s)) (hs : 0 < s.length) : Calls Try.prog 32 #[v] w fun x w' => x = .returned (.int .i64 (minL (s.drop 1) s[0])) ∧ w' = w := by
  obtain ⟨hl, ad, cap, rfl, h1, h2, h3⟩ := hr0
  unfold maxLen at h2
  obtain ⟨b, o, rfl, hbw, hc⟩ := h3 (by omega)
  have hc0 := hc 0 _ (iv_get s 0 hs)
  have HC := hide hc
  obtain ⟨a, ha⟩ : ∃ a, s[0] = a := ⟨_, rfl⟩
  rw [ha] at hc0 ⊢
  have hs1 : ¬ ((s.length : Int) < 1) := by omega
  have hsI : (0 : Int) < s.length := by omega
  obtain ⟨A, hA⟩ : ∃ A, minL (s.drop 1) a = A := ⟨_, rfl⟩
  rw [hA]
  have HA0 := hide hA
  clear hA hc h3 ha
  rw [Nat.add_zero] at hc0
  go_enter Try.func32, Try.ntmps32
  go_wp2_with fail
  go_loop [3, 4] (fun m i => ∃ (k : Nat) (n : Int), i = .int .i64 k ∧ m = .int .i64 n ∧ k ≤ s.length ∧ Hid (minL (s.drop k) n = A)) (fun _ i => s.length - (intOf i).toNat)
  case atStart => exact ⟨1, a, rfl, rfl, hs, HA0⟩
  case round =>
    clear HA0
    obtain ⟨k, n, rfl, rfl, hk, HA⟩ := hrel
    by_cases hlt : k < s.length
    · have hck := HC.out k _ (iv_get s k hlt)
      have HE := HA.out
      rw [minL_drop hlt] at HE
      obtain ⟨e, he⟩ : ∃ e, s[k] = e := ⟨_, rfl⟩
      rw [he] at hck HE
      replace HE := hide HE
      clear he
      go_wp2_with fail
      go_round
      case rel => exact ⟨k + 1, _, by go_num, rfl, by omega, HE⟩
      case measure => simp [intOf]; omega
    · have HE : Hid (n = A) := by have := HA.out; rw [minL_end (by omega)] at this; exact this
      go_wp2_with fail
      go_ret
      exact ⟨by rw [← HE.out]; rfl, rfl⟩
set_option maxHeartbeats 1000000 in
theorem implWants (L : List Int) (v : Value) (w : World) (hr0 : Reads w v L.length 1 (iv L)) : Calls Try.prog 20 #[v] w fun x w' => x = .returned (.bool (wantsB L)) ∧ w' = w := by
  have HRD := hide hr0
  obtain ⟨hl, ad, cap, rfl, h1, h2, h3⟩ := hr0
  clear h3
  unfold maxLen at h2
  cases hin : inB (L.length : Int) 1 10
  · have HW := hide (wants_len (L := L) (fun c => inB_false hin ⟨by omega, by omega⟩))
    go_enter Try.func20, Try.ntmps20
    go_wp2_with fail
    refine (implWithin _ _ _ _).mono ?_; rw [hin]; rintro e w1 ⟨rfl, hsame⟩; obtain rfl := hsame.symm; clear hsame
    go_wp2_with fail
    go_ret
    exact ⟨by rw [HW.out]; rfl, rfl⟩
  · obtain ⟨i0, i1⟩ := inB_true hin
    have h0 : 0 < L.length := by omega
    have HW := wants_is h0 (by omega)
    have hmin := slicesMin L _ w HRD.out h0
    have hmax := slicesMax L _ w HRD.out h0
    generalize minL (L.drop 1) L[0] = mn at *
    generalize maxL (L.drop 1) L[0] = mx at *
    by_cases c1 : 0 ≤ mn
    · by_cases c2 : mx ≤ 100000
      · replace HW : Hid (wantsB L = true) := by rw [decide_eq_true c1, decide_eq_true c2] at HW; exact HW
        go_enter Try.func20, Try.ntmps20
        go_wp2_with fail
        refine (implWithin _ _ _ _).mono ?_; rw [hin]; rintro e w1 ⟨rfl, hsame⟩; obtain rfl := hsame.symm; clear hsame
        go_wp2_with fail
        refine hmin.mono ?_; rintro e w2 ⟨rfl, hsame⟩; obtain rfl := hsame.symm; clear hsame
        go_wp2_with fail
        refine hmax.mono ?_; rintro e w3 ⟨rfl, hsame⟩; obtain rfl := hsame.symm; clear hsame
        go_wp2_with fail
        go_ret
        exact ⟨by rw [HW.out]; rfl, rfl⟩
      · replace HW : Hid (wantsB L = false) := by rw [decide_eq_false c2, Bool.and_false] at HW; exact HW
        go_enter Try.func20, Try.ntmps20
        go_wp2_with fail
        refine (implWithin _ _ _ _).mono ?_; rw [hin]; rintro e w1 ⟨rfl, hsame⟩; obtain rfl := hsame.symm; clear hsame
        go_wp2_with fail
        refine hmin.mono ?_; rintro e w2 ⟨rfl, hsame⟩; obtain rfl := hsame.symm; clear hsame
        go_wp2_with fail
        refine hmax.mono ?_; rintro e w3 ⟨rfl, hsame⟩; obtain rfl := hsame.symm; clear hsame
        go_wp2_with fail
        go_ret
        exact ⟨by rw [HW.out, decide_eq_false (by omega)]; rfl, rfl⟩
    · replace HW : Hid (wantsB L = false) := by rw [decide_eq_false c1, Bool.false_and] at HW; exact HW
      go_enter Try.func20, Try.ntmps20
      go_wp2_with fail
      refine (implWithin _ _ _ _).mono ?_; rw [hin]; rintro e w1 ⟨rfl, hsame⟩; obtain rfl := hsame.symm; clear hsame
      go_wp2_with fail
      refine hmin.mono ?_; rintro e w2 ⟨rfl, hsame⟩; obtain rfl := hsame.symm; clear hsame
      go_wp2_with fail
      go_ret
      exact ⟨by rw [HW.out]; rfl, rfl⟩
set_option maxHeartbeats 1000000 in
theorem implLeast (n : Int) (s : List Int) (v : Value) (w : World) (hr0 : Reads w v s.length 1 (iv s)) : Calls Try.prog 23 #[.int .i64 n, v] w fun x w' => x = .returned (.int .i64 (minL s n)) ∧ w' = w := by
  obtain ⟨hl, ad, cap, rfl, h1, h2, h3⟩ := hr0
  have H3 := hide h3
  unfold maxLen at h2
  obtain ⟨A, hA⟩ : ∃ A, minL s n = A := ⟨_, rfl⟩
  rw [hA]
  have HA0 : Hid (minL (s.drop 0) n = A) := hA
  clear hA h3
  go_enter Try.func23, Try.ntmps23
  go_wp2_with fail
  go_loop [0, 9] (fun m i => ∃ (k : Nat) (n : Int), i = .int .i64 k ∧ m = .int .i64 n ∧ k ≤ s.length ∧ Hid (minL (s.drop k) n = A)) (fun _ i => s.length - (intOf i).toNat)
  case atStart => exact ⟨0, n, rfl, rfl, Nat.zero_le _, HA0⟩
  case round =>
    clear HA0
    obtain ⟨k, n, rfl, rfl, hk, HA⟩ := hrel
    by_cases hlt : k < s.length
    · obtain ⟨b, o, rfl, hbw, hc⟩ := H3.out (by omega)
      have hck := hc k _ (iv_get s k hlt)
      clear hc
      have HE := HA.out
      rw [minL_drop hlt] at HE
      obtain ⟨e, he⟩ : ∃ e, s[k] = e := ⟨_, rfl⟩
      rw [he] at hck HE
      replace HE := hide HE
      clear he
      go_wp2_with fail
      go_round
      case rel => exact ⟨k + 1, _, by go_num, rfl, by omega, HE⟩
      case measure => simp [intOf]; omega
    · have HE : Hid (n = A) := by have := HA.out; rw [minL_end (by omega)] at this; exact this
      go_wp2_with fail
      go_ret
      exact ⟨by rw [← HE.out]; rfl, rfl⟩
set_option maxHeartbeats 1000000 in
theorem implLacks (L S : List Int) (v u : Value) (w : World) (hr0 : Reads w v L.length 1 (iv L)) (hr1 : Reads w u S.length 1 (iv S)) (hLS : S.length = L.length) (hL10 : L.length ≤ 10) (hLi : ∀ j (h : j < L.length), 0 ≤ L[j] ∧ L[j] ≤ 100000) (hSi : ∀ j (h : j < S.length), 0 ≤ S[j] ∧ S[j] ≤ 100000) :
    Calls Try.prog 22 #[v, u] w fun x w' => ∃ v', x = .returned v' ∧ w'.ownsRow w.heap.size 2 1 v' (lk L S).length (iv (lk L S)) ∧ Below w.heap.size w w' := by
  have HR0 := hide hr0; have HR1 := hide hr1; have HLI := hide hLi; have HSI := hide hSi
  obtain ⟨_, ad, cap, rfl, h1, h2, _⟩ := hr0
  obtain ⟨_, ad', cap', rfl, h1', h2', _⟩ := hr1
  have hS10 : S.length ≤ 10 := by omega
  have HLS := hide hLS
  clear hLi hSi hLS
  go_enter Try.func22, Try.ntmps22
  go_wp2_with fail
  go_loopw [5, 10] (fun s i wr => ∃ (k : Nat) (a : Option Addr) (p : Nat) (M : List Int), i = .int .i64 k ∧ s = .slice a M.length p ∧ k ≤ S.length ∧ Hid (lk (L.take k) (S.take k) = M) ∧ Hid (wr.ownsRow w.heap.size 2 1 (.slice a M.length p) M.length (iv M)) ∧ Hid (Below w.heap.size w wr)) (fun _ i _ => S.length - (intOf i).toNat)
  case atStart => exact ⟨0, none, 0, [], rfl, rfl, Nat.zero_le _, rfl, World.ownsRow_nil w w.heap.size 2 1, Below.refl _ _⟩
  case round =>
    obtain ⟨k, a, p, M, rfl, rfl, hk, HM, HO, HB⟩ := hrel
    by_cases hlt : k < S.length
    · have hltL : k < L.length := by have := HLS.out; omega
      have hS0 := HSI.out k hlt
      have hL0 := HLI.out k hltL
      have HT := hide (lk_take L S k hltL hlt)
      rw [HM.out] at HT
      obtain ⟨_, ad1, cap1, hv, _, _, h3⟩ := HR0.out.new HB.out
      cases hv
      obtain ⟨_, ad1, cap1, hv, _, _, h3'⟩ := HR1.out.new HB.out
      cases hv
      obtain ⟨b, o, rfl, hbw, hc⟩ := h3 (by omega)
      obtain ⟨b', o', rfl, hbw', hc'⟩ := h3' (by omega)
      have hck := hc k _ (iv_get L k hltL)
      have hck' := hc' k _ (iv_get S k hlt)
      have hkl : M.length ≤ k := by have := lk_len (L.take k) (S.take k); rw [List.length_take, HM.out] at this; omega
      obtain ⟨x, hx⟩ : ∃ x, L[k] = x := ⟨_, rfl⟩
      obtain ⟨s, hs⟩ : ∃ s, S[k] = s := ⟨_, rfl⟩
      rw [hx] at hck hL0 HT
      rw [hs] at hck' hS0 HT
      obtain ⟨x0, x1⟩ := hL0
      obtain ⟨s0, s1⟩ := hS0
      clear hc hc' h3 h3' hx hs HM
      by_cases hsx : s < x
      · have HM2 : Hid (lk (L.take (k + 1)) (S.take (k + 1)) = M ++ [x - s]) := by have := HT.out; rw [if_pos hsx] at this; exact this
        have hX : Below wr.heap.size wr (wr.alloc (.cells #[.int .i64 (x - s)] 2)) := (Below.refl _ _).alloc (Nat.le_refl _) _
        have hownX := owns_new HO.out hX
        have hRd := reads_int1 wr (x - s)
        have HBX := hide (bchain HB.out hX)
        have hbs := HBX.out.size
        clear HT
        go_wp2_with (at_builtin; refine wpList_app _ (by rfl) _ _ 24 (by rfl) 2 (.int .i64 0) 1 8 Try.underlying24 (by kernel_rfl) rfl (by decide) w.heap.size _ M.length (iv M) (by rfl) hownX _ 1 (iv [(x - s)]) (by rfl) hRd (iv_one _) (by omega) (by decide) hbs ?_)
        intro ad7 cap7 w7 hown7 hg7 hat7
        have HB7 : Hid (Below w.heap.size w w7) := by
          have hb := HBX.out
          exact ⟨hg7.os.trans hb.os, hg7.tape.trans hb.tape, hg7.output.trans hb.output, Nat.le_trans hb.size hg7.size, fun k hk => (hg7.block k (by have := hb.size; omega) (fun e => by have := (hownX.lt k e.symm).1; omega)).trans (hb.block k hk)⟩
        have HO7 : Hid (w7.ownsRow w.heap.size 2 1 (.slice ad7 (M ++ [x - s]).length cap7) (M ++ [x - s]).length (iv (M ++ [x - s]))) := by
          show World.ownsRow _ _ _ _ _ _ _
          have := hown7
          rw [← iv_app] at this
          simpa using this
        clear hown7 hg7 hat7 hownX hRd hX hbs
        go_wp2_with fail
        go_roundw
        case rel => exact ⟨k + 1, ad7, cap7, M ++ [x - s], by go_num, by simp, by omega, HM2, HO7, HB7⟩
        case measure => simp [intOf]; omega
      · have HM2 : Hid (lk (L.take (k + 1)) (S.take (k + 1)) = M) := by have := HT.out; rw [if_neg hsx, List.append_nil] at this; exact this
        clear HT
        go_wp2_with fail
        go_roundw
        case rel => exact ⟨k + 1, a, p, M, by go_num, rfl, by omega, HM2, HO, HB⟩
        case measure => simp [intOf]; omega
    · have HMM : Hid (M = lk L S) := by show M = _; rw [← HM.out, List.take_of_length_le (by have := HLS.out; omega), List.take_of_length_le (by omega)]
      go_wp2_with fail
      go_ret
      have := HMM.out
      subst this
      exact ⟨_, rfl, HO.out, HB.out⟩
set_option maxHeartbeats 1000000 in
theorem implHand (L S : List Int) (q k C R r0 : Int) (v : Value) (g c0 : Nat) (w : World) (hr0 : Reads w v L.length 1 (iv L)) (hv : v.ownBlock ≠ some g) (hg : RowIs w g 2 (iv S)) (hL10 : L.length ≤ 10) (hLi : ∀ j (h : j < L.length), 0 ≤ L[j] ∧ L[j] ≤ 100000) (hk0 : 1 ≤ k) (hR : R ≤ 1000000) (hk1 : k ≤ 1000000) (hP : PH L q k C R 0 S r0) (hc0 : L.length ≤ c0) (hc1 : c0 ≤ 1000) :
    Calls Try.prog 24 #[v, .slice (some ⟨g, 0, none⟩) L.length c0, .int .i64 r0, .int .i64 k] w fun x w' => ∃ T r, x = .returned (.int .i64 r) ∧ PE L q C R T r ∧ RowIs w' g 2 (iv T) ∧ Turn g (g + 1) w w' := by
  have HR0 := hide hr0; have HLI := hide hLi; have HP := hide hP; have HGR := hide hg; have HV := hide hv
  obtain ⟨_, ad, cap, rfl, h1, h2, _⟩ := hr0
  clear hLi hP hv hg
  go_enter Try.func24, Try.ntmps24
  go_wp2_with fail
  go_loopw [2, 12] (fun rm i wr => ∃ (n : Nat) (r : Int) (T : List Int), i = .int .i64 n ∧ rm = .int .i64 r ∧ n ≤ L.length ∧ Hid (PH L q k C R n T r) ∧ Hid (RowIs wr g 2 (iv T)) ∧ Hid (Turn g (g + 1) w wr)) (fun _ i _ => L.length - (intOf i).toNat)
  case atStart => exact ⟨0, r0, S, rfl, rfl, Nat.zero_le _, HP, HGR, Turn.refl _ _ _⟩
  case round =>
    clear HP HGR
    obtain ⟨n, r, T, rfl, rfl, hn, HP, HGR, HT⟩ := hrel
    by_cases hlt : n < L.length
    · have hrR := HP.out.room
      obtain ⟨r1, r2⟩ := hrR
      have hTl := HP.out.len
      have hnT : n < T.length := by omega
      have hL0 := HLI.out n hlt
      have hT0 := HP.out.in HLI.out n hnT
      obtain ⟨_, ad1, cap1, hv, _, _, h3⟩ := HR0.out.turn HT.out (fun k hk => by have := HV.out; rw [hk] at this; simp at this; omega)
      cases hv
      obtain ⟨b, o, rfl, hbw, hc⟩ := h3 (by omega)
      have hck := hc n _ (iv_get L n hlt)
      have hco := HGR.out.cell (j := n) (iv_get T n hnT)
      have hfo := HGR.out.frozen n
      have hgl := HGR.out.lt
      have HY := hide (HP.out.yes hlt hnT)
      have HN := hide (HP.out.no hlt hnT)
      have hbg : b ≠ g := fun c => HV.out (by rw [c]; rfl)
      have hset := fun x => RowIs.set HGR.out n (.int .i64 x)
      obtain ⟨x, hx⟩ : ∃ x, L[n] = x := ⟨_, rfl⟩
      obtain ⟨s, hs⟩ : ∃ s, T[n] = s := ⟨_, rfl⟩
      rw [hx] at hck hL0 HY HN
      rw [hs] at hco hT0 HY HN
      have hsT := hide hs
      obtain ⟨x0, x1⟩ := hL0
      obtain ⟨s0, s1⟩ := hT0
      clear hc h3
      by_cases hrk : k ≤ r
      · by_cases hsx : s < x
        · have HP2 := hide (HY.out hrk hsx)
          have hin2 := HP2.out.in HLI.out n (by rw [List.length_set]; exact hnT)
          rw [List.getElem_set, if_pos rfl] at hin2
          obtain ⟨z0, z1⟩ := hin2
          have hd1 : decide (k ≤ r) = true := decide_eq_true hrk
          have hd2 : decide (s < x) = true := decide_eq_true hsx
          clear HY HN hx hs hset
          have q0 : ∀ y : Later wr, y.w.cell? ⟨g, n, none⟩ = some (.int .i64 s) := fun y => (y.b.cell (p := ⟨g, n, none⟩) hgl).trans hco
          have q1 : ∀ y : Later wr, y.w.cell? ⟨b, o + n, none⟩ = some (.int .i64 x) := fun y => (y.b.cell (p := ⟨b, o + n, none⟩) hbw).trans hck
          go_wp2_with fail
          have hne : Nonempty (Later wr) := ⟨⟨wr, Below.refl _ _⟩⟩; refine region_later (by kernel_rfl) (by kernel_rfl) ?_
          repeat (go_big_quiet_step (fail))
          refine wpQuiet_nil ?_; intro _ hw'; obtain ⟨y, hw''⟩ := hw'; subst hw''; have hby := y.b
          replace HGR := hide (HGR.out.new hby)
          replace HT := hide (HT.out.trans (turn_new hby g (g + 1)))
          have hco := HGR.out.cell (j := n) (iv_get T n hnT)
          have hfo := HGR.out.frozen n
          have hgl := HGR.out.lt
          generalize y.w = X at *
          have HGR2 : Hid (RowIs (X.setCell ⟨g, n, none⟩ (.int .i64 (s + k))) g 2 (iv (T.set n (s + k)))) := by show RowIs _ _ _ _; rw [iv_set]; exact RowIs.set HGR.out n (.int .i64 (s + k))
          have HT2 : Hid (Turn g (g + 1) w (X.setCell ⟨g, n, none⟩ (.int .i64 (s + k)))) := HT.out.setCell (p := ⟨g, n, none⟩) _ (.inl ⟨Nat.le_refl _, Nat.lt_succ_self _⟩)
          rw [hsT.out] at hco
          clear q0 q1 hby hne hck HGR HT
          go_wp2_with fail
          go_roundw
          case rel => exact ⟨n + 1, r - k, T.set n (s + k), by go_num, by go_num, by omega, HP2, HGR2, HT2⟩
          case measure => simp [intOf]; omega
        · have HP2 := hide (HN.out (fun c => hsx c.2))
          have hd1 : decide (k ≤ r) = true := decide_eq_true hrk
          have hd2 : decide (s < x) = false := decide_eq_false hsx
          clear HY HN hx hs hset
          have q0 : ∀ y : Later wr, y.w.cell? ⟨g, n, none⟩ = some (.int .i64 s) := fun y => (y.b.cell (p := ⟨g, n, none⟩) hgl).trans hco
          have q1 : ∀ y : Later wr, y.w.cell? ⟨b, o + n, none⟩ = some (.int .i64 x) := fun y => (y.b.cell (p := ⟨b, o + n, none⟩) hbw).trans hck
          go_wp2_with fail
          have hne : Nonempty (Later wr) := ⟨⟨wr, Below.refl _ _⟩⟩; refine region_later (by kernel_rfl) (by kernel_rfl) ?_
          repeat (go_big_quiet_step (fail))
          refine wpQuiet_nil ?_; intro _ hw'; obtain ⟨y, hw''⟩ := hw'; subst hw''; have hby := y.b
          replace HGR := hide (HGR.out.new hby)
          replace HT := hide (HT.out.trans (turn_new hby g (g + 1)))
          generalize y.w = X at *
          clear q0 q1 hby hne hck hco hfo hgl
          go_wp2_with fail
          go_roundw
          case rel => exact ⟨n + 1, r, T, by go_num, rfl, by omega, HP2, HGR, HT⟩
          case measure => simp [intOf]; omega
      · have HP2 := hide (HN.out (fun c => hrk c.1))
        have hd1 : decide (k ≤ r) = false := decide_eq_false hrk
        clear HY HN hx hs hset
        go_wp2_with fail
        have hne : Nonempty (Later wr) := ⟨⟨wr, Below.refl _ _⟩⟩; refine region_later (by kernel_rfl) (by kernel_rfl) ?_
        repeat (go_big_quiet_step (fail))
        refine wpQuiet_nil ?_; intro _ hw'; obtain ⟨y, hw''⟩ := hw'; subst hw''; have hby := y.b
        replace HGR := hide (HGR.out.new hby)
        replace HT := hide (HT.out.trans (turn_new hby g (g + 1)))
        generalize y.w = X at *
        clear hby hne hck hco hfo hgl
        go_wp2_with fail
        go_roundw
        case rel => exact ⟨n + 1, r, T, by go_num, rfl, by omega, HP2, HGR, HT⟩
        case measure => simp [intOf]; omega
    · have HE : Hid (PE L q C R T r) := by
        have e : n = L.length := by omega
        subst e
        exact HP.out.fin
      go_wp2_with fail
      go_ret
      exact ⟨T, r, rfl, HE.out, HGR.out, HT.out⟩
set_option maxHeartbeats 2000000 in
theorem implShares (L : List Int) (v : Value) (room : Int) (w : World) (hr0 : Reads w v L.length 1 (iv L)) : Calls Try.prog 9 #[v, .int .i64 room] w fun x w' => ∃ v' s, x = .returned v' ∧ ShR L room s ∧ w'.ownsRow w.heap.size 2 1 v' s.length (iv s) ∧ Below w.heap.size w w' := by
  have HRD := hide hr0
  obtain ⟨hl, ad, cap, rfl, h1, h2, h3⟩ := hr0
  have H3 := hide h3
  clear h3
  unfold maxLen at h2
  cases hW : wantsB L
  · have hno : ShR L room [] := by unfold ShR shOk; rw [hW]; rfl
    go_enter Try.func9, Try.ntmps9
    go_wp2_with fail
    refine (implWants L _ _ HRD.out).mono ?_; rw [hW]; rintro e w1 ⟨rfl, hsame⟩; obtain rfl := hsame.symm; clear hsame
    go_wp2_with fail
    go_ret
    exact ⟨_, [], rfl, hno, World.ownsRow_nil _ _ 2 1, Below.refl _ _⟩
  cases hR : inB room 0 1000000
  · have hno : ShR L room [] := by unfold ShR shOk; rw [hW, hR]; rfl
    go_enter Try.func9, Try.ntmps9
    go_wp2_with fail
    refine (implWants L _ _ HRD.out).mono ?_; rw [hW]; rintro e w1 ⟨rfl, hsame⟩; obtain rfl := hsame.symm; clear hsame
    go_wp2_with fail
    refine (implWithin _ _ _ _).mono ?_; rw [hR]; rintro e w1 ⟨rfl, hsame⟩; obtain rfl := hsame.symm; clear hsame
    go_wp2_with fail
    go_ret
    exact ⟨_, [], rfl, hno, World.ownsRow_nil _ _ 2 1, Below.refl _ _⟩
  obtain ⟨n0, n1⟩ := wantsB_len hW
  obtain ⟨r0, r1⟩ := inB_true hR
  have HG := hide (wantsB_get hW)
  have hmk := made_zeros L.length (by omega)
  have HYES : Hid (∀ s, IsSh L room s → ShR L room s) := fun s h => by unfold ShR shOk; rw [hW, hR]; exact h
  have RZ := rowIs_new w 2 (iv (List.replicate L.length 0))
  rw [← cut_zero (fun j hj => (wantsB_get hW j hj).1)] at RZ hmk
  go_enter Try.func9, Try.ntmps9
  go_wp2_with fail
  refine (implWants L _ _ HRD.out).mono ?_; rw [hW]; rintro e w1 ⟨rfl, hsame⟩; obtain rfl := hsame.symm; clear hsame
  go_wp2_with fail
  refine (implWithin _ _ _ _).mono ?_; rw [hR]; rintro e w1 ⟨rfl, hsame⟩; obtain rfl := hsame.symm; clear hsame
  go_wp2_with fail
  have hb0 : Below w.heap.size w (w.alloc (.cells (iv (cut L 0 0)).toArray 2)) := (Below.refl _ _).alloc (Nat.le_refl _) _
  clear hmk
  generalize w.alloc (.cells (iv (cut L 0 0)).toArray 2) = W0 at *
  have hgl := RZ.lt
  obtain ⟨g, hg⟩ : ∃ g, g = w.heap.size := ⟨_, rfl⟩
  rw [← hg] at RZ hgl ⊢
  have hgw : w.heap.size ≤ g := by omega
  have HGO : Hid (∀ b, b < w.heap.size → b ≠ g) := fun b hb => by omega
  have HZ : Hid (room = room - sumI (cut L 0 0)) := by
    have : ∀ n : Nat, sumI (List.replicate n 0) = 0 := fun n => by
      induction n with
      | zero => rfl
      | succ n ih => show 0 + sumI (List.replicate n 0) = 0; omega
    show _ = _
    rw [cut_zero (fun j hj => (wantsB_get hW j hj).1), this]
    omega
  have HV : Hid ((Value.slice ad L.length cap).ownBlock ≠ some g) := fun c => by
    obtain ⟨b, o, rfl, hbw, _⟩ := H3.out (by omega)
    exact HGO.out b hbw (by injection c)
  have HRZ := hide RZ
  have HB := hide hb0
  clear hg RZ hb0
  go_loopw [1] (fun rm wr => ∃ (q rest : Int) (i : Nat), rm = .int .i64 rest ∧ 0 ≤ rest ∧ rest ≤ 1000000 ∧ Hid (0 ≤ q) ∧ Hid (rest = room - sumI (cut L q i)) ∧ Hid (0 < rest → i = 0) ∧ Hid (RowIs wr g 2 (iv (cut L q i))) ∧ Hid (Below w.heap.size w wr)) (fun rm _ => (intOf rm).toNat)
  case atStart => exact ⟨0, room, 0, rfl, r0, r1, hide (Int.le_refl _), HZ, fun _ => rfl, HRZ, HB⟩
  case round =>
    clear HRZ HB HZ
    obtain ⟨q, rest, i, rfl, s0, s1, HQ, HS, HI, HRZ, HB⟩ := hrel
    have HOW : Hid (wr.ownsRow w.heap.size 2 1 (.slice (some ⟨g, 0, none⟩) L.length L.length) (cut L q i).length (iv (cut L q i))) := ⟨by rw [iv_len, Nat.mul_one], .inr ⟨g, L.length, (iv (cut L q i)).toArray, by rw [cut_len], hgw, HRZ.out, by rw [cut_len]; exact Nat.le_refl _, by unfold maxLen; omega, by simp [iv_len, cut_len], by rw [List.take_of_length_le (by simp [iv_len])]⟩⟩
    by_cases hpos : 0 < rest
    · obtain rfl : i = 0 := HI.out hpos
      clear HI
      have hcl := cut_len L q 0
      go_wp2_with fail
      have hrS := reads_of_owns HOW.out
      rw [cut_len] at hrS
      refine (implLacks L (cut L q 0) _ _ _ (HRD.out.new HB.out) (by rw [cut_len]; exact hrS) (cut_len L q 0) n1 HG.out (fun j h => cut_in HQ.out HG.out j h)).mono ?_
      rintro x w2 ⟨v2, rfl, ho2, hb2⟩
      have HRZ2 := hide (HRZ.out.new hb2)
      have HB2 := hide (bchain HB.out hb2)
      have HOW2 := hide (owns_new HOW.out hb2)
      obtain ⟨ad2, cap2, rfl, hm1, hm2⟩ := owns_form ho2
      have HM := hide (reads_of_owns ho2)
      have hlk := lk_len L (cut L q 0)
      have HPOS := hide (lk_pos L (cut L q 0))
      have hsz : w.heap.size ≤ wr.heap.size := HB.out.size
      have HO2 : Hid (∀ k, (Value.slice ad2 (lk L (cut L q 0)).length cap2).ownBlock = some k → k ≠ g) := fun k hk => by have := (ho2.lt k hk).1; have := HRZ.out.lt; omega
      clear ho2 hrS HRZ HB HOW
      by_cases hne : lk L (cut L q 0) = []
      · have HIS : Hid (IsSh L room (cut L q 0)) := by
          have e : cut L q 0 = L := lk_none hcl (cut_below L q 0) hne
          refine ⟨q, 0, HQ.out, rfl, ?_⟩
          have := HS.out
          rw [e] at this ⊢
          split <;> omega
        have hlz : (lk L (cut L q 0)).length = 0 := by rw [hne]; rfl
        rw [hlz]
        go_wp2_with fail
        go_ret
        exact ⟨_, cut L q 0, rfl, HYES.out _ HIS.out, HOW2.out, HB2.out⟩
      · have HNE := hide hne
        have hlp : 0 < (lk L (cut L q 0)).length := List.length_pos_iff.2 hne
        have hd0 : ((lk L (cut L q 0)).length : Int) ≠ 0 := by omega
        obtain ⟨k, hk⟩ : ∃ k, k = max 1 (minL (lk L (cut L q 0)) (rest / (lk L (cut L q 0)).length)) := ⟨_, rfl⟩
        have HST := hide (PH.start HQ.out hpos hne hk)
        have hk0 : 1 ≤ k := by omega
        have hk1 : k ≤ 1000000 := by
          have h1 : minL (lk L (cut L q 0)) (rest / (lk L (cut L q 0)).length) ≤ rest / (lk L (cut L q 0)).length := ((minL_ge _ _ _).1 (Int.le_refl _)).1
          have h2 : rest / (lk L (cut L q 0)).length ≤ rest := Int.ediv_le_self _ s0
          omega
        have htd : wrap64 (rest / ((lk L (cut L q 0)).length : Int)) = rest / ((lk L (cut L q 0)).length : Int) := by
          have h2 : rest / ((lk L (cut L q 0)).length : Int) ≤ rest := Int.ediv_le_self _ s0
          have h3 : 0 ≤ rest / ((lk L (cut L q 0)).length : Int) := Int.ediv_nonneg s0 (by omega)
          generalize rest / ((lk L (cut L q 0)).length : Int) = d at h2 h3 ⊢
          unfold wrap64
          omega
        have HK := hide hk
        clear hne hk

        go_wp2_with fail
        refine (implLeast _ (lk L (cut L q 0)) _ _ HM.out).mono ?_; rintro e w3 ⟨rfl, hsame⟩; obtain rfl := hsame.symm; clear hsame
        go_wp2_with fail
        rw [← HK.out]
        refine (implHand L (cut L q 0) q k (rest + sumI (cut L q 0)) rest rest _ g L.length _ ((HRD.out.new HB2.out)) HV.out HRZ2.out n1 HG.out hk0 s1 hk1 HST.out (Nat.le_refl _) (by omega)).mono ?_
        rintro x w4 ⟨T, r, rfl, hpe, hrow4, ht4⟩
        have hless := hpe.less hpos HNE.out
        obtain ⟨q', i', p1, rfl, p3, p4, p5, p6⟩ := hpe
        have HQ2 : Hid (0 ≤ q') := by show 0 ≤ q'; have := HQ.out; omega
        have HS2 : Hid (r = room - sumI (cut L q' i')) := by show r = _; have := HS.out; omega
        have HI2 : Hid (0 < r → i' = 0) := fun c => (p6 c).1
        have HB4 : Hid (Below w.heap.size w w4) := by
          have hb := HB2.out
          have hbz := hb.size
          exact ⟨ht4.os.trans hb.os, ht4.tape.trans hb.tape, ht4.output.trans hb.output, Nat.le_trans hbz ht4.size, fun k hk => (ht4.block k (by omega) (.inl (by omega))).trans (hb.block k hk)⟩
        have HR4 := hide hrow4
        clear p1 p3 p6 hrow4 ht4 HRZ2 HB2 HOW2 HM HPOS HO2 HST HK htd
        go_wp2_with fail
        go_roundw
        case rel => exact ⟨q', r, i', rfl, p5, by omega, HQ2, HS2, HI2, HR4, HB4⟩
        case measure => simp [intOf]; omega
    · have HIS : Hid (IsSh L room (cut L q i)) := by
        refine ⟨q, i, HQ.out, rfl, ?_⟩
        have h1 := HS.out
        have h2 := cut_sum_le L q i
        rw [if_pos (by omega)]
        omega
      go_wp2_with fail
      go_ret
      exact ⟨_, rfl, cut L q i, HYES.out _ HIS.out, HOW.out, HB.out⟩
set_option maxHeartbeats 1000000 in
theorem implLevel (L : List Int) (v : Value) (room : Int) (w : World) (hr0 : Reads w v L.length 1 (iv L)) : Calls Try.prog 8 #[v, .int .i64 room] w fun x w' => ∃ s, x = .returned (.int .i64 (maxL s (-1))) ∧ ShR L room s ∧ Below w.heap.size w w' := by
  obtain ⟨_, ad, cap, hv, _⟩ := id hr0
  subst hv
  go_enter Try.func8, Try.ntmps8
  go_wp2_with fail
  refine (implShares L _ room _ hr0).mono ?_; rintro x w1 ⟨v', s, rfl, hsh, ho, hb1⟩
  have HRD := hide (reads_of_owns ho)
  obtain ⟨ad1, cap1, rfl, h1, h2⟩ := owns_form ho
  have HSH := hide hsh
  have HB := hide hb1
  have hs10 := shr_short hsh
  unfold maxLen at h2
  clear ho hb1 hr0
  by_cases hz : s.length = 0
  · have HM : Hid (maxL s (-1) = -1) := by rw [List.length_eq_zero_iff.1 hz]; rfl
    have hz1 : ((s.length : Int) == 0) = true := by rw [hz]; rfl
    clear hsh
    go_wp2_with fail
    go_ret
    exact ⟨s, by rw [HM.out]; rfl, HSH.out, HB.out⟩
  · have h0 : 0 < s.length := by omega
    have hz1 : ((s.length : Int) == 0) = false := by simpa using (show ¬ (s.length : Int) = 0 by omega)
    have HM : Hid (maxL s (-1) = maxL (s.drop 1) s[0]) := by
      show _ = _
      have hp : 0 ≤ s[0] := by
        unfold ShR at hsh
        split at hsh
        · rename_i c
          unfold shOk at c
          rw [Bool.and_eq_true] at c
          exact (hsh.pos (fun j hj => (wantsB_get c.1 j hj).1) 0 h0 (by rw [← hsh.len]; exact h0)).1
        · subst hsh; simp at h0
      have e := maxL_drop (s := s) (k := 0) h0 (-1)
      rw [List.drop_zero, if_neg (by omega)] at e
      exact e
    have hmax := slicesMax s _ w1 HRD.out h0
    rw [← HM.out] at hmax
    clear hsh
    go_wp2_with fail
    refine hmax.mono ?_; rintro e w2 ⟨rfl, hsame⟩; obtain rfl := hsame.symm; clear hsame
    go_wp2_with fail
    go_ret
    exact ⟨s, rfl, HSH.out, HB.out⟩
end Go.Proofs.Ytllignhfkkeinaa
