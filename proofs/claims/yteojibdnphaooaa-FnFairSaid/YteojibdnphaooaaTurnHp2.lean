/- The program's heap of visits: container/heap's up, down, Push, Pop over it; put, take; which Line has the Turn next. -/
import Derived.Test.YteojibdnphaooaaTurnHp1
import Derived.Deep.LoopGhost
import Derived.Deep.Cut
import Derived.Deep.DeepCutAuto


namespace Go.Proofs.Yteojibdnphaooaa
open Go.RowKit
set_option maxRecDepth 100000
set_option linter.unusedSimpArgs false
set_option linter.unusedVariables false
theorem mLen {w : World} {g : Nat} {v : Value} (h : RowIs w g 69 [v]) : (Go.method 215 85 (.pointer (some ⟨g, 0, none⟩)) "Len").run Try.prog w = .ok (85, v) w := by
  have e : (Go.method 215 85 (.pointer (some ⟨g, 0, none⟩)) "Len").run Try.prog w = (Sem.load .plain ⟨g, 0, none⟩ (fun u => .pure (85, u))).run Try.prog w := by kernel_rfl
  have h0 := h.cell (j := 0) rfl
  rw [e]
  simp only [Sem.run, h0]
theorem mLess {w : World} {g : Nat} {v : Value} (h : RowIs w g 69 [v]) : (Go.method 215 85 (.pointer (some ⟨g, 0, none⟩)) "Less").run Try.prog w = .ok (86, v) w := by
  have e : (Go.method 215 85 (.pointer (some ⟨g, 0, none⟩)) "Less").run Try.prog w = (Sem.load .plain ⟨g, 0, none⟩ (fun u => .pure (86, u))).run Try.prog w := by kernel_rfl
  have h0 := h.cell (j := 0) rfl
  rw [e]
  simp only [Sem.run, h0]
theorem mSwap {w : World} {g : Nat} {v : Value} (h : RowIs w g 69 [v]) : (Go.method 215 85 (.pointer (some ⟨g, 0, none⟩)) "Swap").run Try.prog w = .ok (87, v) w := by
  have e : (Go.method 215 85 (.pointer (some ⟨g, 0, none⟩)) "Swap").run Try.prog w = (Sem.load .plain ⟨g, 0, none⟩ (fun u => .pure (87, u))).run Try.prog w := by kernel_rfl
  have h0 := h.cell (j := 0) rfl
  rw [e]
  simp only [Sem.run, h0]
theorem mPush (g : Nat) (w : World) : (Go.method 215 85 (.pointer (some ⟨g, 0, none⟩)) "Push").run Try.prog w = .ok (89, .pointer (some ⟨g, 0, none⟩)) w := by kernel_rfl
theorem mPop (g : Nat) (w : World) : (Go.method 215 85 (.pointer (some ⟨g, 0, none⟩)) "Pop").run Try.prog w = .ok (88, .pointer (some ⟨g, 0, none⟩)) w := by kernel_rfl
theorem vlen (ad : Option Addr) (n cap : Nat) (w : World) : Calls Try.prog 85 #[.slice ad n cap] w fun x w' => x = .returned (.int .i64 n) ∧ w' = w := by
  go_enter Try.func85, Try.ntmps85
  go_wp2_with fail
  go_ret
  exact ⟨rfl, rfl⟩
set_option maxHeartbeats 1000000 in
theorem vup (D : List Nat) (T c : Int) (v : Value) (lo g j : Nat) (w : World) (H : VAt w g lo v T c D) (h6 : D.length ≤ 6) (hj : j < D.length) (hup : j = 0 ∨ ¬ D.getD j 0 < D.getD ((j - 1) / 2) 0) :
    Calls Try.prog 67 #[(.iface 85 (.pointer (some ⟨g, 0, none⟩))), .int .i64 j] w fun x w' => x = .returned (.tuple #[]) ∧ Below w.heap.size w w' := by
  obtain ⟨ad, cap, rfl, h1, h2⟩ := owns_form H.own
  have hm := mLess H.row
  have HO := hide H.own
  clear H
  go_enter Try.func67, Try.ntmps67
  go_wp2_with fail
  go_loopw [1] (fun jj wr => jj = .int .i64 j ∧ wr = w) (fun _ _ => 0)
  case atStart => exact ⟨rfl, rfl⟩
  case round =>
    obtain ⟨rfl, rfl⟩ := hrel
    rcases Nat.eq_zero_or_pos j with rfl | hp
    · go_wp2_with fail
      refine bodyPost_end (v := .tuple #[]) (by simp [results, Try.results67, go_sem]) rfl ?_
      exact ⟨rfl, Below.refl _ _⟩
    · have hq : ((j : Int) - 1).tdiv 2 = ((j - 1) / 2 : Nat) := by rw [Int.tdiv_eq_ediv_of_nonneg (by omega)]; omega
      have hk : (j - 1) / 2 < D.length := by omega
      have hne : ((((j - 1) / 2 : Nat) : Int) == (j : Int)) = false := by simp; omega
      have hcall := vless D T c (.slice ad D.length cap) lo j ((j - 1) / 2) wr HO.out hj hk h6
      rw [show decide (D.getD j 0 < D.getD ((j - 1) / 2) 0) = false by simp; rcases hup with h | h; omega; simpa using h] at hcall
      generalize (j - 1) / 2 = i at *
      go_wp2_with fail
      refine hcall.mono ?_
      rintro x w1 ⟨rfl, hb1⟩
      go_wp2_with fail
      refine bodyPost_end (v := .tuple #[]) (by simp [results, Try.results67, go_sem]) rfl ?_
      exact ⟨rfl, hb1⟩
theorem VAt.swap {w w' : World} {g lo gv n cap : Nat} {T c : Int} {D E : List Nat} (h : VAt w g lo (.slice (some ⟨gv, 0, none⟩) n cap) T c D) (ho : w'.ownsRow lo 72 2 (.slice (some ⟨gv, 0, none⟩) n cap) E.length (vc T c E)) (hg : w.grownBy w' (some gv)) : VAt w' g lo (.slice (some ⟨gv, 0, none⟩) n cap) T c E ∧ TurnB [g, gv] w w' := by
  have hne : gv ≠ g := fun e => h.ne (by subst e; rfl)
  exact ⟨⟨h.row.kept (hg.block g h.row.lt (fun e => hne (Option.some.inj e).symm)), ho, h.ne⟩, ⟨hg.os, hg.tape, hg.output, hg.size, fun k hk hn => hg.block k hk (fun e => hn (by simp [Option.some.inj e]))⟩⟩
theorem vswap2 (E : List Nat) (n : Nat) (T c : Int) (g cap lo i j : Nat) (w : World) (hn : E.length = n) (ho : w.ownsRow lo 72 2 (.slice (some ⟨g, 0, none⟩) n cap) E.length (vc T c E)) (hi : i < n) (hj : j < n) (h6 : n ≤ 6) :
    Calls Try.prog 87 #[.slice (some ⟨g, 0, none⟩) n cap, .int .i64 i, .int .i64 j] w fun x w' => x = .returned (.tuple #[]) ∧ w'.ownsRow lo 72 2 (.slice (some ⟨g, 0, none⟩) n cap) (swp E i j).length (vc T c (swp E i j)) ∧ w.grownBy w' (some g) := by
  subst hn
  rw [swp_len]
  exact vswap E T c g cap lo i j w ho hi hj h6
set_option maxHeartbeats 2000000 in
theorem vdown (D : List Nat) (T c : Int) (lo g gv cap n : Nat) (w : World) (H : VAt w g lo (.slice (some ⟨gv, 0, none⟩) D.length cap) T c D) (h6 : D.length ≤ 6) (hn : n ≤ D.length) :
    Calls Try.prog 68 #[(.iface 85 (.pointer (some ⟨g, 0, none⟩))), .int .i64 0, .int .i64 n] w fun x w' => (∃ b : Value, x = .returned b) ∧ VAt w' g lo (.slice (some ⟨gv, 0, none⟩) D.length cap) T c (dn D.length D 0 n) ∧ TurnB [g, gv] w w' := by
  obtain ⟨A, hA⟩ : ∃ A, dn D.length D 0 n = A := ⟨_, rfl⟩
  rw [hA]
  have HA := hide hA
  have HH := hide H
  clear hA H
  go_enter Try.func68, Try.ntmps68
  go_wp2_with fail
  go_loopw [7, 8, 9, 10] (fun s7 _ _ _ wr => ∃ (i f : Nat) (E : List Nat), s7 = .int .i64 (i : Int) ∧ i ≤ 6 ∧ n ≤ i + f ∧ Hid (E.length = D.length) ∧ Hid (dn f E i n = A) ∧ Hid (VAt wr g lo (.slice (some ⟨gv, 0, none⟩) D.length cap) T c E) ∧ Hid (TurnB [g, gv] w wr)) (fun s7 _ _ _ _ => n - (intOf s7).toNat)
  case atStart => exact ⟨0, D.length, D, rfl, by omega, by omega, hide rfl, HA, HH, hide (TurnB.refl _ _)⟩
  case round =>
    clear HH HA
    obtain ⟨i, f, E, rfl, hi6, hif, HEL, HA, HV, HK⟩ := hrel
    by_cases hst : n ≤ 2 * i + 1
    · have HA2 : Hid (E = A) := by show E = A; rw [← HA.out, dn_stop hst]
      have hst1 : ¬ 2 * (i : Int) + 1 < n := by omega
      have hst2 : (n : Int) ≤ 2 * (i : Int) + 1 := by omega
      go_wp2_with fail
      go_ret
      exact ⟨⟨_, rfl⟩, by rw [← HA2.out]; exact HV.out, HK.out⟩
    · have hst1 : 2 * (i : Int) + 1 < n := by omega
      have hst2 : ¬ (n : Int) ≤ 2 * (i : Int) + 1 := by omega
      obtain ⟨f, rfl⟩ : ∃ q, f = q + 1 := ⟨f - 1, by omega⟩
      have hEl := HEL.out
      have hin : i < n := by omega
      by_cases hj2 : 2 * i + 2 < n
      · have hj2I : 2 * (i : Int) + 1 + 1 < n := by omega
        have hm1 := mLess HV.out.row
        have hcl1 := vless E T c (.slice (some ⟨gv, 0, none⟩) D.length cap) lo (2 * i + 2) (2 * i + 1) wr HV.out.own (by omega) (by omega) (by omega)
        rw [show ((2 * i + 2 : Nat) : Int) = 2 * (i : Int) + 1 + 1 by omega, show ((2 * i + 1 : Nat) : Int) = 2 * (i : Int) + 1 by omega] at hcl1
        cases hd : decide (E.getD (2 * i + 2) 0 < E.getD (2 * i + 1) 0)
        · have hkd : kid E i n = 2 * i + 1 := by unfold kid; rw [if_neg (fun h => by simp at hd; have := h.2; simp at this; omega)]
          rw [hd] at hcl1
          go_wp2_with fail
          refine hcl1.mono ?_
          rintro x W ⟨rfl, hb1⟩
          replace HV := hide (HV.out.new hb1)
          replace HK := hide (HK.out.trans (TurnB.new hb1))
          clear hb1 hcl1 hm1 hd
          have hcl2 := vless E T c (.slice (some ⟨gv, 0, none⟩) D.length cap) lo (2 * i + 1) i W HV.out.own (by omega) (by omega) (by omega); rw [show ((2 * i + 1 : Nat) : Int) = 2 * (i : Int) + 1 by omega] at hcl2; have hsw := fun w2 ho => vswap2 E D.length T c gv cap lo i (2 * i + 1) w2 HEL.out ho (by omega) (by omega) (by omega); rw [show ((2 * i + 1 : Nat) : Int) = 2 * (i : Int) + 1 by omega] at hsw; have hm2 := mLess HV.out.row
          cases hd2 : decide (E.getD (2 * i + 1) 0 < E.getD i 0)
          · have HA2 : Hid (E = A) := by show E = A; rw [← HA.out, dn_right hst (by rw [hkd]; simpa using hd2)]
            rw [hd2] at hcl2
            clear hd2 hkd
            go_wp2_with fail; refine hcl2.mono ?_; rintro x w2 ⟨rfl, hb2⟩; have HV2 := hide (HV.out.new hb2); have HK2 := hide (HK.out.trans (TurnB.new hb2)); clear hb2 hcl2 hsw; go_wp2_with fail; go_ret; exact ⟨⟨_, rfl⟩, by rw [← HA2.out]; exact HV2.out, HK2.out⟩
          · have HA2 : Hid (dn f (swp E i (2 * i + 1)) (2 * i + 1) n = A) := by show _ = A; rw [← HA.out, dn_step hst (by rw [hkd]; simpa using hd2), hkd]
            rw [hd2] at hcl2
            clear hd2 hkd
            go_wp2_with fail; refine hcl2.mono ?_; rintro x w2 ⟨rfl, hb2⟩; have HV2 := hide (HV.out.new hb2); have HK2 := hide (HK.out.trans (TurnB.new hb2)); have hm3 := mSwap HV2.out.row; have hsw2 := hsw w2 HV2.out.own; clear hb2 hcl2 hsw hm2; go_wp2_with fail; refine hsw2.mono ?_; rintro x w3 ⟨rfl, ho3, hg3⟩; obtain ⟨hv3, hk3⟩ := HV2.out.swap ho3 hg3; have HV3 := hide hv3; have HK3 := hide (HK2.out.trans hk3); clear ho3 hg3 hv3 hk3 hsw2 hm3; go_wp2_with fail; go_roundw
            case rel => exact ⟨2 * i + 1, f, swp E i (2 * i + 1), by go_num, by omega, by omega, hide (by rw [swp_len]; exact HEL.out), HA2, HV3, HK3⟩
            case measure => simp [intOf]; omega
        · have hkd : kid E i n = 2 * i + 2 := by unfold kid; rw [if_pos ⟨hj2, by simpa using hd⟩]
          rw [hd] at hcl1
          go_wp2_with fail
          refine hcl1.mono ?_
          rintro x W ⟨rfl, hb1⟩
          replace HV := hide (HV.out.new hb1)
          replace HK := hide (HK.out.trans (TurnB.new hb1))
          clear hb1 hcl1 hm1 hd
          have hcl2 := vless E T c (.slice (some ⟨gv, 0, none⟩) D.length cap) lo (2 * i + 2) i W HV.out.own (by omega) (by omega) (by omega); rw [show ((2 * i + 2 : Nat) : Int) = 2 * (i : Int) + 1 + 1 by omega] at hcl2; have hsw := fun w2 ho => vswap2 E D.length T c gv cap lo i (2 * i + 2) w2 HEL.out ho (by omega) (by omega) (by omega); rw [show ((2 * i + 2 : Nat) : Int) = 2 * (i : Int) + 1 + 1 by omega] at hsw; have hm2 := mLess HV.out.row
          cases hd2 : decide (E.getD (2 * i + 2) 0 < E.getD i 0)
          · have HA2 : Hid (E = A) := by show E = A; rw [← HA.out, dn_right hst (by rw [hkd]; simpa using hd2)]
            rw [hd2] at hcl2
            clear hd2 hkd
            go_wp2_with fail; refine hcl2.mono ?_; rintro x w2 ⟨rfl, hb2⟩; have HV2 := hide (HV.out.new hb2); have HK2 := hide (HK.out.trans (TurnB.new hb2)); clear hb2 hcl2 hsw; go_wp2_with fail; go_ret; exact ⟨⟨_, rfl⟩, by rw [← HA2.out]; exact HV2.out, HK2.out⟩
          · have HA2 : Hid (dn f (swp E i (2 * i + 2)) (2 * i + 2) n = A) := by show _ = A; rw [← HA.out, dn_step hst (by rw [hkd]; simpa using hd2), hkd]
            rw [hd2] at hcl2
            clear hd2 hkd
            go_wp2_with fail; refine hcl2.mono ?_; rintro x w2 ⟨rfl, hb2⟩; have HV2 := hide (HV.out.new hb2); have HK2 := hide (HK.out.trans (TurnB.new hb2)); have hm3 := mSwap HV2.out.row; have hsw2 := hsw w2 HV2.out.own; clear hb2 hcl2 hsw hm2; go_wp2_with fail; refine hsw2.mono ?_; rintro x w3 ⟨rfl, ho3, hg3⟩; obtain ⟨hv3, hk3⟩ := HV2.out.swap ho3 hg3; have HV3 := hide hv3; have HK3 := hide (HK2.out.trans hk3); clear ho3 hg3 hv3 hk3 hsw2 hm3; go_wp2_with fail; go_roundw
            case rel => exact ⟨2 * i + 2, f, swp E i (2 * i + 2), by go_num, by omega, by omega, hide (by rw [swp_len]; exact HEL.out), HA2, HV3, HK3⟩
            case measure => simp [intOf]; omega
      · have hj2I : ¬ 2 * (i : Int) + 1 + 1 < n := by omega
        have hkd : kid E i n = 2 * i + 1 := by unfold kid; rw [if_neg (fun h => hj2 h.1)]
        obtain ⟨W, hW⟩ : ∃ W, wr = W := ⟨_, rfl⟩
        rw [hW] at HV HK ⊢
        clear hW
        have hcl2 := vless E T c (.slice (some ⟨gv, 0, none⟩) D.length cap) lo (2 * i + 1) i W HV.out.own (by omega) (by omega) (by omega); rw [show ((2 * i + 1 : Nat) : Int) = 2 * (i : Int) + 1 by omega] at hcl2; have hsw := fun w2 ho => vswap2 E D.length T c gv cap lo i (2 * i + 1) w2 HEL.out ho (by omega) (by omega) (by omega); rw [show ((2 * i + 1 : Nat) : Int) = 2 * (i : Int) + 1 by omega] at hsw; have hm2 := mLess HV.out.row
        cases hd2 : decide (E.getD (2 * i + 1) 0 < E.getD i 0)
        · have HA2 : Hid (E = A) := by show E = A; rw [← HA.out, dn_right hst (by rw [hkd]; simpa using hd2)]
          rw [hd2] at hcl2
          clear hd2 hkd
          go_wp2_with fail; refine hcl2.mono ?_; rintro x w2 ⟨rfl, hb2⟩; have HV2 := hide (HV.out.new hb2); have HK2 := hide (HK.out.trans (TurnB.new hb2)); clear hb2 hcl2 hsw; go_wp2_with fail; go_ret; exact ⟨⟨_, rfl⟩, by rw [← HA2.out]; exact HV2.out, HK2.out⟩
        · have HA2 : Hid (dn f (swp E i (2 * i + 1)) (2 * i + 1) n = A) := by show _ = A; rw [← HA.out, dn_step hst (by rw [hkd]; simpa using hd2), hkd]
          rw [hd2] at hcl2
          clear hd2 hkd
          go_wp2_with fail; refine hcl2.mono ?_; rintro x w2 ⟨rfl, hb2⟩; have HV2 := hide (HV.out.new hb2); have HK2 := hide (HK.out.trans (TurnB.new hb2)); have hm3 := mSwap HV2.out.row; have hsw2 := hsw w2 HV2.out.own; clear hb2 hcl2 hsw hm2; go_wp2_with fail; refine hsw2.mono ?_; rintro x w3 ⟨rfl, ho3, hg3⟩; obtain ⟨hv3, hk3⟩ := HV2.out.swap ho3 hg3; have HV3 := hide hv3; have HK3 := hide (HK2.out.trans hk3); clear ho3 hg3 hv3 hk3 hsw2 hm3; go_wp2_with fail; go_roundw
          case rel => exact ⟨2 * i + 1, f, swp E i (2 * i + 1), by go_num, by omega, by omega, hide (by rw [swp_len]; exact HEL.out), HA2, HV3, HK3⟩
          case measure => simp [intOf]; omega
end Go.Proofs.Yteojibdnphaooaa
