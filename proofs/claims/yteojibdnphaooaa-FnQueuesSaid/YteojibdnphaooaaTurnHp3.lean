/- The program's heap of visits: Push, Pop, put, take; which Line has the Turn next. -/
import Derived.Test.YteojibdnphaooaaTurnHp2


namespace Go.Proofs.Yteojibdnphaooaa
open Go.RowKit
set_option maxRecDepth 100000
set_option linter.unusedSimpArgs false
set_option linter.unusedVariables false
theorem VAt.far {w : World} {g lo : Nat} {v : Value} {T c : Int} {D : List Nat} (h : VAt w g lo v T c D) (p : Addr) (u : Value) (h1 : p.block ≠ g) (h2 : v.ownBlock ≠ some p.block) : VAt (w.setCell p u) g lo v T c D := ⟨h.row.far p u h1, owns_apart h.own p u h2, h.ne⟩
theorem TurnB.setNew {bs : List Nat} {a b : World} (h : TurnB bs a b) (p : Addr) (v : Value) (hp : a.heap.size ≤ p.block) : TurnB bs a (b.setCell p v) :=
  ⟨h.os, h.tape, h.output, by simp; exact h.size, fun k hk hn => by rw [Below.heap_setCell b p v k (by omega)]; exact h.block k hk hn⟩
theorem TurnB.kept3 {lo g gv : Nat} {a b : World} (h : TurnB [g, gv] a b) (hl : lo ≤ gv) : Kept3 lo g a b := ⟨h.size, fun B h1 h2 h3 => ⟨h.os, h.tape, h.output, h.size, fun k hk => h.block k (by omega) (by simp; omega)⟩⟩
set_option maxHeartbeats 1000000 in
theorem vhpush (k : Nat) (T c : Int) (v : Value) (lo g : Nat) (w : World) (H : VAt w g lo v T c (pushed k)) (h6 : k ≤ 5) (hlo : lo ≤ w.heap.size) :
    Calls Try.prog 62 #[(.iface 85 (.pointer (some ⟨g, 0, none⟩))), .iface 72 (.agg #[.int .i64 ((T + ((k + 1 : Nat) : Int)) % c), .int .i64 ((k + 1 : Nat) : Int)])] w fun x w' => x = .returned (.tuple #[]) ∧ (∃ v', VAt w' g lo v' T c (pushed (k + 1))) ∧ Kept3 lo g w w' := by
  have hps := vpush (pushed k) T c v lo g (k + 1) w H (by rw [pushed_len]; omega) hlo
  have hmp := fun w => mPush g w
  have hkl : (pushed (k + 1)).length = k + 1 := pushed_len _
  have hq : pushed k ++ [k + 1] = pushed (k + 1) := rfl
  rw [hq] at hps
  generalize (T + ((k + 1 : Nat) : Int)) % c = e0 at *
  clear hq H
  go_enter Try.func62, Try.ntmps62
  go_wp2_with fail
  refine hps.mono ?_
  rintro x w1 ⟨rfl, ⟨v1, hv1⟩, hk1⟩
  obtain ⟨ad, cap, rfl, _⟩ := owns_form hv1.own
  have hml := mLen hv1.row
  have hln := vlen ad (pushed (k + 1)).length cap w1
  have hup := vup (pushed (k + 1)) T c _ lo g k w1 hv1 (by omega) (by omega) (by
    rcases Nat.eq_zero_or_pos k with h | h
    · exact .inl h
    · right; rw [pushed_get _ _ (by omega), pushed_get _ _ (by omega)]; omega)
  rw [hkl] at hml hln
  have HV := hide hv1
  have HK := hide hk1
  clear hv1 hk1 hps hmp hkl
  go_wp2_with fail
  refine hln.mono ?_
  rintro x w2 ⟨rfl, rfl⟩
  clear hln hml
  go_wp2_with fail
  refine hup.mono ?_
  rintro x w3 ⟨rfl, hb3⟩
  go_wp2_with fail
  refine bodyPost_end (v := .tuple #[]) (by simp [results, Try.results62, go_sem]) rfl ?_
  exact ⟨rfl, ⟨_, HV.out.new hb3⟩, HK.out.trans (Kept3.of hb3)⟩
set_option maxHeartbeats 1000000 in
theorem vput (k : Nat) (T c : Int) (v : Value) (lo g : Nat) (w : World) (H : VAt w g lo v T c (pushed k)) (h6 : k ≤ 5) (hlo : lo ≤ w.heap.size) :
    Calls Try.prog 50 #[.pointer (some ⟨g, 0, none⟩), .agg #[.int .i64 ((T + ((k + 1 : Nat) : Int)) % c), .int .i64 ((k + 1 : Nat) : Int)]] w fun x w' => x = .returned (.tuple #[]) ∧ (∃ v', VAt w' g lo v' T c (pushed (k + 1))) ∧ Kept3 lo g w w' := by
  have hbx : Below w.heap.size w (w.alloc (.cells #[.int .i64 ((T + ((k + 1 : Nat) : Int)) % c), .int .i64 ((k + 1 : Nat) : Int)] 72)) := (Below.refl _ _).alloc (Nat.le_refl _) _
  have hps := vhpush k T c v lo g _ (H.new hbx) h6 (Nat.le_trans hlo hbx.size)
  have HK : Hid (Kept3 lo g w _) := Kept3.of (lo := lo) (g := g) hbx
  generalize (T + ((k + 1 : Nat) : Int)) % c = e0 at *
  clear H
  go_enter Try.func50, Try.ntmps50
  go_wp2_with fail
  refine hps.mono ?_
  rintro x w1 ⟨rfl, ⟨v1, hv1⟩, hk1⟩
  go_wp2_with fail
  refine bodyPost_end (v := .tuple #[]) (by simp [results, Try.results50, go_sem]) rfl ?_
  exact ⟨rfl, ⟨v1, hv1⟩, HK.out.trans hk1⟩
set_option maxHeartbeats 1000000 in
theorem vhpop (D : List Nat) (n gv cap : Nat) (T c : Int) (lo g : Nat) (w : World) (H : VAt w g lo (.slice (some ⟨gv, 0, none⟩) D.length cap) T c D) (h6 : D.length ≤ 6) (hn : D.length = n + 1) :
    Calls Try.prog 63 #[(.iface 85 (.pointer (some ⟨g, 0, none⟩)))] w fun x w' => x = .returned (.iface 72 (.agg #[.int .i64 ((T + ((popD D).getD n 0 : Nat)) % c), .int .i64 (((popD D).getD n 0 : Nat) : Int)])) ∧ VAt w' g lo (.slice (some ⟨gv, 0, none⟩) n cap) T c ((popD D).take n) ∧ TurnB [g, gv] w w' := by
  obtain ⟨e1, he1⟩ : ∃ e, (popD D).getD n 0 = e := ⟨_, rfl⟩
  rw [he1]
  obtain ⟨e0, he0⟩ : ∃ e, (T + (e1 : Int)) % c = e := ⟨_, rfl⟩
  rw [he0]
  have HE1 := hide he1
  have HE0 := hide he0
  clear he1 he0
  have hml := mLen H.row
  have hms := mSwap H.row
  have hln := vlen (some ⟨gv, 0, none⟩) D.length cap w
  have hsw := vswap2 D D.length T c gv cap lo 0 n w rfl H.own (by omega) (by omega) h6
  have hP : popD D = dn D.length (swp D 0 n) 0 n := by unfold popD; rw [hn]; rfl
  have HP := hide hP
  have HV := hide H
  have hmp := fun w => mPop g w
  have HDL : Hid (D.length = n + 1) := hn
  have h5 : n ≤ 5 := by omega
  rw [hn] at hml hms hln hsw HV
  clear H hn hP
  go_enter Try.func63, Try.ntmps63
  go_wp2_with fail
  refine hln.mono ?_
  rintro x w2 ⟨rfl, rfl⟩
  clear hln hml
  go_wp2_with fail
  refine hsw.mono ?_
  rintro x w3 ⟨rfl, ho3, hg3⟩
  obtain ⟨hv3, hk3⟩ := VAt.swap HV.out ho3 hg3
  have hsl := swp_len D 0 n
  have hdw := vdown (swp D 0 n) T c lo g gv cap n w3 (by rw [hsl, HDL.out]; exact hv3) (by omega) (by rw [hsl, HDL.out]; omega)
  have HK3 := hide hk3
  have HSL := hide hsl
  clear ho3 hg3 hv3 hk3 hsw hms hsl
  go_wp2_with fail
  refine hdw.mono ?_
  rintro x w4 ⟨⟨bq, rfl⟩, hv4, hk4⟩
  rw [HSL.out, ← HP.out] at hv4
  have hpl := popD_len D
  rw [← hpl] at hv4
  have hpp := vpop (popD D) T c lo g gv cap n w4 hv4 (by omega) (by rw [hpl]; exact HDL.out)
  have HK4 := hide (HK3.out.trans hk4)
  rw [HE1.out, HE0.out] at hpp
  clear hv4 hk4 hdw hpl
  go_wp2_with fail
  refine hpp.mono ?_
  rintro x w5 ⟨rfl, hv5, hk5⟩
  go_wp2_with fail
  go_ret
  exact ⟨rfl, hv5, HK4.out.trans hk5⟩
set_option maxHeartbeats 1000000 in
theorem vtake (D : List Nat) (n gv cap : Nat) (T c : Int) (lo g : Nat) (w : World) (H : VAt w g lo (.slice (some ⟨gv, 0, none⟩) D.length cap) T c D) (h6 : D.length ≤ 6) (hn : D.length = n + 1) :
    Calls Try.prog 52 #[.pointer (some ⟨g, 0, none⟩)] w fun x w' => x = .returned (.agg #[.int .i64 ((T + ((popD D).getD n 0 : Nat)) % c), .int .i64 (((popD D).getD n 0 : Nat) : Int)]) ∧ VAt w' g lo (.slice (some ⟨gv, 0, none⟩) n cap) T c ((popD D).take n) ∧ TurnB [g, gv] w w' := by
  have hbx : Below w.heap.size w (w.alloc (.cells #[.int .i64 0, .int .i64 0] 72)) := (Below.refl _ _).alloc (Nat.le_refl _) _
  have hpp := vhpop D n gv cap T c lo g _ (H.new hbx) h6 hn
  have hgl := H.row.lt
  have hvl := (H.own.lt gv rfl).2
  have RB := rowIs_new w 72 [.int .i64 0, .int .i64 0]
  have HT : Hid (TurnB [g, gv] w (w.alloc (.cells #[.int .i64 0, .int .i64 0] 72))) := TurnB.new hbx
  have hsz : (w.alloc (.cells #[.int .i64 0, .int .i64 0] 72)).heap.size = w.heap.size + 1 := by simp
  generalize (popD D).getD n 0 = e1 at *
  generalize (T + (e1 : Int)) % c = e0 at *
  have hva := vVisit (.agg #[.int .i64 e0, .int .i64 (e1 : Int)])
  clear H hn
  go_enter Try.func52, Try.ntmps52
  go_wp2_with fail
  generalize w.alloc (.cells #[.int .i64 0, .int .i64 0] 72) = W at *
  refine hpp.mono ?_
  rintro x w1 ⟨rfl, hv1, ht1⟩
  have R1 : RowIs w1 w.heap.size 72 [.int .i64 0, .int .i64 0] := RB.kept (ht1.block _ (by omega) (by simp; omega))
  have c0 := R1.cell (j := 0) rfl
  have c1 := R1.cell (j := 1) rfl
  have f0 := fun q => R1.frozen q
  have l0 := R1.lt
  have HV1 := hide hv1
  have HT1 := hide (HT.out.trans ht1)
  clear hv1 ht1 RB hpp R1
  go_wp2_with fail
  refine bodyPost_ret (v := (.agg #[.int .i64 e0, .int .i64 (e1 : Int)])) (by simp [results, Try.results52, go_sem, *]) rfl ?_
  have hne : (Value.slice (some ⟨gv, 0, none⟩) n cap).ownBlock ≠ some w.heap.size := fun h => by have : gv = w.heap.size := Option.some.inj h; omega
  exact ⟨rfl, (HV1.out.far _ _ (show w.heap.size ≠ g by omega) hne).far _ _ (show w.heap.size ≠ g by omega) hne, (HT1.out.setNew _ _ (Nat.le_refl _)).setNew _ _ (Nat.le_refl _)⟩
set_option maxHeartbeats 1000000 in
/-- Who has the Turn next: of c visits the one that is due m-th behind m of them. -/
theorem vnext (k m : Nat) (T c : Int) (v : Value) (lo g : Nat) (w : World) (H : VAt w g lo v T c (hp k m)) (hk : k ≤ 6) (hm : m < k) :
    Calls Try.prog 51 #[.pointer (some ⟨g, 0, none⟩)] w fun x w' => x = .returned (.int .i64 ((T + ((m + 1 : Nat) : Int)) % c)) ∧ (∃ v', VAt w' g lo v' T c (hp k (m + 1))) ∧ Kept3 lo g w w' := by
  have hl := hp_len k m (by omega)
  obtain ⟨gv, cap, rfl, _, hgv, _⟩ := owns_open H.own (by omega)
  have htk := vtake (hp k m) (k - m - 1) gv cap T c lo g w H (by omega) (by omega)
  have hd := hp_due k (by omega) m hm
  rw [hl] at hd
  rw [hd] at htk
  have hh : hp k (m + 1) = (popD (hp k m)).take (k - m - 1) := by show (popD (hp k m)).take ((hp k m).length - 1) = _; rw [hl]
  rw [← hh] at htk
  clear hh hd hl H
  generalize (T + ((m + 1 : Nat) : Int)) % c = e0 at *
  have hfl : ∀ (a b : Int) (w : World), (Instr.field 72 (.agg #[.int .i64 a, .int .i64 b]) 0).run Try.prog w = .ok (.int .i64 a) w := fun a b w => by kernel_rfl
  go_enter Try.func51, Try.ntmps51
  go_wp2_with fail
  refine htk.mono ?_
  rintro x w1 ⟨rfl, hv1, ht1⟩
  go_wp2_with fail
  go_ret
  exact ⟨rfl, ⟨_, hv1⟩, ht1.kept3 hgv⟩
set_option maxHeartbeats 1000000 in
theorem vturns (k : Nat) (T : Int) (w : World) (hk1 : 1 ≤ k) (hk : k ≤ 6) (t0 : 0 ≤ T) (t1 : T < k) :
    Calls Try.prog 33 #[.int .i64 T, .int .i64 (k : Int)] w fun x w' => ∃ g v, x = .returned (.func (.func 51) #[] #[.pointer (some ⟨g, 0, none⟩)]) ∧ w.heap.size ≤ g ∧ VAt w' g w.heap.size v T k (hp k 0) ∧ Below w.heap.size w w' := by
  go_enter Try.func33, Try.ntmps33
  go_wp2_with fail
  have hbx : Below w.heap.size w (w.alloc (.cells #[.slice none 0 0] 69)) := (Below.refl _ _).alloc (Nat.le_refl _) _
  have HV0 : Hid (VAt (w.alloc (.cells #[.slice none 0 0] 69)) w.heap.size w.heap.size (.slice none 0 0) T k (pushed 0)) := ⟨rowIs_new w 69 [.slice none 0 0], World.ownsRow_nil _ _ _ _, by simp [Value.ownBlock]⟩
  have HB0 := hide hbx
  clear hbx
  generalize w.alloc (.cells #[.slice none 0 0] 69) = W at *
  go_loopw [6] (fun s wr => ∃ (j : Nat) (v : Value), s = .int .i64 ((j : Int) + 1) ∧ j ≤ k ∧ Hid (VAt wr w.heap.size w.heap.size v T k (pushed j)) ∧ Hid (Below w.heap.size w wr)) (fun s _ => k + 1 - (intOf s).toNat)
  case atStart => exact ⟨0, _, rfl, by omega, HV0, HB0⟩
  case round =>
    clear HV0 HB0
    obtain ⟨j, v, rfl, hj, HV, HB⟩ := hrel
    by_cases hlt : j < k
    · have hltI : (j : Int) + 1 ≤ k := by omega
      have hps := vput j T k v w.heap.size w.heap.size wr HV.out (by omega) HB.out.size
      have em : (T + ((j : Int) + 1)).tmod (k : Int) = (T + ((j + 1 : Nat) : Int)) % k := by rw [Int.tmod_eq_emod_of_nonneg (by omega)]; norm_cast
      have hm0 : 0 ≤ (T + ((j + 1 : Nat) : Int)) % k := Int.emod_nonneg _ (by omega)
      have hm1 : (T + ((j + 1 : Nat) : Int)) % k < k := Int.emod_lt_of_pos _ (by omega)
      generalize (T + ((j + 1 : Nat) : Int)) % k = q at *
      have hn0 : ((k : Int) == 0) = false := by simpa using (show ¬ (k : Int) = 0 by omega)
      have hk0 : k ≠ 0 := by omega
      rw [show ((j + 1 : Nat) : Int) = (j : Int) + 1 by omega] at hps
      have wq : IntKind.i64.wrap q = q := by rw [IntKind.wrap_i64]; omega
      go_wp2_with fail
      refine hps.mono ?_
      rintro x w1 ⟨rfl, ⟨v1, hv1⟩, hk1⟩
      have HV1 := hide hv1
      have HB1 := hide (HB.out.trans (hk1.2 w.heap.size (Nat.le_refl _) (Nat.le_refl _) HB.out.size))
      clear hps hv1 hk1
      go_wp2_with fail
      go_roundw
      case rel => exact ⟨j + 1, v1, by go_num, by omega, HV1, HB1⟩
      case measure => simp [intOf]; omega
    · have hltI : ¬ (j : Int) + 1 ≤ k := by omega
      obtain rfl : j = k := by omega
      go_wp2_with fail
      go_ret
      first | exact ⟨_, v, rfl, Nat.le_refl _, HV.out, HB.out⟩ | exact ⟨_, rfl, Nat.le_refl _, ⟨v, HV.out⟩, HB.out⟩
end Go.Proofs.Yteojibdnphaooaa
