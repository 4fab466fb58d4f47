/- The program's mac: a signer that folds its key once. -/
import Derived.Test.YtfemmnhfllbgjaaGreatDoorTokOnce
import Derived.Deep.RegionHeld3
import Derived.Deep.DeepCutAuto



namespace Go.Proofs.YtfemmnhfllbgjaaGreatDoor
open Go.RowKit
set_option maxRecDepth 100000
set_option linter.unusedSimpArgs false
set_option linter.unusedVariables false
theorem fac_take {f : Int} {s : ByteArray} {k : Nat} (hk : k < s.size) : facL f ((bys s).take (k + 1)) = facL f ((bys s).take k) * 1000003 % 2147483647 := by
  have hl : k < (bys s).length := by rw [bys_len]; exact hk
  rw [List.take_add_one, List.getElem?_eq_getElem hl, facL_app]; rfl
set_option maxHeartbeats 1000000 in
/-- The key's bytes, folded into a factor and a number more. -/
theorem implFold (key : ByteArray) (d st : Int) (g : Nat) (w : World) (hk : key.size ≤ maxLen) (h : RowIs w g 119 [.string key, .int .u32 d, .int .i32 st, .int .u32 0, .int .i64 0, .int .i64 0]) :
    Calls Tryz.prog 117 #[.pointer (some ⟨g, 0, none⟩)] w fun x w' => x = .returned (.tuple #[]) ∧ RowIs w' g 119 [.string key, .int .u32 d, .int .i32 st, .int .u32 0, .int .i64 (facL 1 (bys key)), .int .i64 (macL 0 (bys key))] ∧ Below g w w' := by
  unfold maxLen at hk
  have R1 := hide (h.set 4 (.int .i64 1))
  have x4 := h.cell (j := 4) rfl
  have x9 := h.frozen 4
  have y0 := R1.out.cell (j := 0) rfl
  have B1 : Hid (Below g w (w.setCell ⟨g, 4, none⟩ (.int .i64 1))) := (Below.refl g w).setCell (p := ⟨g, 4, none⟩) (Nat.le_refl _) _
  clear h
  go_enter Tryz.func117, Tryz.ntmps117
  go_wp2_with fail
  clear x4 x9 y0
  go_loopw [11] (fun i wr => ∃ k : Nat, i = .int .i64 k ∧ k ≤ key.size ∧ RowIs wr g 119 [.string key, .int .u32 d, .int .i32 st, .int .u32 0, .int .i64 (facL 1 ((bys key).take k)), .int .i64 (macL 0 ((bys key).take k))] ∧ Below g w wr) (fun i wr => key.size - (intOf i).toNat)
  case atStart => exact ⟨0, rfl, Nat.zero_le _, R1.out, B1.out⟩
  case round =>
    obtain ⟨k, rfl, hks, R, hb⟩ := hrel
    clear R1 B1
    have HB := hide hb
    clear hb
    by_cases hlt : k < key.size
    · have hltI : (k : Int) < key.size := by omega
      have ht1 := fac_take (f := 1) hlt
      have ht2 := mac_take (h := 0) hlt
      obtain ⟨f, hf⟩ : ∃ f, facL 1 ((bys key).take k) = f := ⟨_, rfl⟩
      obtain ⟨m, hm⟩ : ∃ m, macL 0 ((bys key).take k) = m := ⟨_, rfl⟩
      have rf : 0 ≤ f ∧ f ≤ 2147483646 := by rw [← hf]; exact facL_range _ (by decide) (by decide)
      have rm : 0 ≤ m ∧ m ≤ 2147483646 := by rw [← hm]; exact macL_range _ (by decide) (by decide)
      rw [hf] at R ht1
      rw [hm] at R ht2
      obtain ⟨b, hbb⟩ : ∃ b, (key[k].toNat : Int) = b := ⟨_, rfl⟩
      have rb : 0 ≤ b ∧ b ≤ 255 := by have := key[k].toNat_lt; omega
      rw [hbb] at ht2
      have HT1 := hide ht1; have HT2 := hide ht2
      clear ht1 ht2 hf hm
      obtain ⟨f0, f1⟩ := rf
      obtain ⟨m0, m1⟩ := rm
      have e1 : IntKind.i64.wrap (f * 1000003) = f * 1000003 := by rw [IntKind.wrap_i64]; omega
      have e4 : (f * 1000003).tmod 2147483647 = f * 1000003 % 2147483647 := Int.tmod_eq_emod_of_nonneg (by omega)
      have hf1 := facS_range f
      obtain ⟨f', hf'⟩ : ∃ f', f * 1000003 % 2147483647 = f' := ⟨_, rfl⟩
      rw [hf'] at e4 hf1 HT1
      have e5 : IntKind.i64.wrap f' = f' := by rw [IntKind.wrap_i64]; omega
      have RS := hide R
      have y0 := R.cell (j := 0) rfl
      have y4 := R.cell (j := 4) rfl
      have y5 := R.cell (j := 5) rfl
      have z4 := R.frozen 4
      have z5 := R.frozen 5
      clear R
      go_wp2_with fail
      have R2 := hide (RS.out.set 4 (.int .i64 f'))
      have q0 := R2.out.cell (j := 0) rfl
      have q5 := R2.out.cell (j := 5) rfl
      have zq := R2.out.frozen 5
      refine wp_region_held_drew (S := (fun u => u.cell? ⟨g, 0, none⟩ = some (.string key))) (by kernel_rfl) q0 (fun hS => ?_)
      refine wpAnyH_take (i := 0) (v := ?_) rfl (by kernel_rfl) (by kernel_rfl) (by kernel_rfl) (fun _ _ _ h => h) (Or.inl ⟨by kernel_rfl, ?_⟩) hS ?_; rotate_left; focus (intro uu hu; clear hu; go_simp; try with_reducible rfl)
      refine wpAnyH_take (i := 1) (v := ?_) rfl (by kernel_rfl) (by kernel_rfl) (by kernel_rfl) (fun _ _ _ h => h) (Or.inl ⟨by kernel_rfl, ?_⟩) hS ?_; rotate_left; focus (intro uu hu; clear hu; go_simp; try with_reducible rfl)
      refine wpAnyH_take (i := 2) (v := ?_) rfl (by kernel_rfl) (by kernel_rfl) (by kernel_rfl) (fun _ _ _ h => h) (Or.inl ⟨by kernel_rfl, ?_⟩) hS ?_; rotate_left; focus (intro uu hu; clear hu; go_simp; try with_reducible rfl)
      refine wpAnyH_take (i := 3) (v := ?_) rfl (by kernel_rfl) (by kernel_rfl) (by kernel_rfl) (fun _ _ _ h => h) (Or.inl ⟨by kernel_rfl, ?_⟩) hS ?_; rotate_left; focus (intro uu hu; clear hu; go_simp; try with_reducible rfl)
      refine wpAnyH_take (i := 5) (v := ?_) rfl (by kernel_rfl) (by kernel_rfl) (by kernel_rfl) (fun _ _ _ h => h) (Or.inl ⟨by kernel_rfl, ?_⟩) hS ?_; rotate_left; focus (intro uu hu; clear hu; go_simp; try with_reducible rfl)
      refine wpAnyH_take (i := 6) (v := ?_) rfl (by kernel_rfl) (by kernel_rfl) (by kernel_rfl) (fun _ _ _ h => h) (Or.inl ⟨by kernel_rfl, ?_⟩) hS ?_; rotate_left; focus (intro uu hu; clear hu; go_simp; try with_reducible rfl)
      refine wpAnyH_take (i := 7) (v := ?_) rfl (by kernel_rfl) (by kernel_rfl) (by kernel_rfl) (fun _ _ _ h => h) (Or.inl ⟨by kernel_rfl, ?_⟩) hS ?_; rotate_left; focus (intro uu hu; clear hu; go_simp; try with_reducible rfl)
      refine wpAnyH_take (i := 8) (v := (.string key)) rfl (by kernel_rfl) (by kernel_rfl) (by kernel_rfl) (fun _ _ _ h => h) (Or.inl ⟨by kernel_rfl, ?ld⟩) hS ?_; case ld => (intro uu hu; have l0 := hu; clear hu; go_simp)
      refine wpAnyH_take (i := 9) (v := ?_) rfl (by kernel_rfl) (by kernel_rfl) (by kernel_rfl) (fun _ _ _ h => h) (Or.inl ⟨by kernel_rfl, ?_⟩) hS ?_; rotate_left; focus (intro uu hu; clear hu; go_simp; try with_reducible rfl)
      refine wpAnyH_take (i := 10) (v := (.int .u8 b)) rfl (by kernel_rfl) (by kernel_rfl) (by kernel_rfl) (fun _ _ _ h => h) (Or.inl ⟨by kernel_rfl, ?ld⟩) hS ?_; case ld => (intro uu hu; clear hu; go_simp)
      refine wpAnyH_ready (rs := [4]) (by kernel_rfl) (by simp) ?_; refine (AllReadyH.cons rfl (fun K hK => ?_) AllReadyH.nil); rw [if_pos (by kernel_rfl)]; go_simp
      refine hK.out _ _ hS (fun hS => ?_)
      clear hK K
      refine wpAnyH_ready (rs := [11]) (by kernel_rfl) (by simp) ?_; refine (AllReadyH.cons rfl (fun K hK => ?_) AllReadyH.nil); rw [if_pos (by kernel_rfl)]; go_simp
      refine (implMixed m b _ m0 m1 rb.1 rb.2).mono ?_; rintro e u1 ⟨rfl, hsame⟩; obtain rfl := hsame.symm; clear hsame
      refine hK.out _ _ hS (fun hS => ?_)
      clear hK K
      refine wpAnyH_take (i := 12) (v := ?_) rfl (by kernel_rfl) (by kernel_rfl) (by kernel_rfl) (fun _ _ _ h => h) (Or.inl ⟨by kernel_rfl, ?_⟩) hS ?_; rotate_left; focus (intro uu hu; clear hu; go_simp; try with_reducible rfl)
      refine wpAnyH_take (i := 13) (v := ?_) rfl (by kernel_rfl) (by kernel_rfl) (by kernel_rfl) (fun _ _ _ h => h) (Or.inl ⟨by kernel_rfl, ?_⟩) hS ?_; rotate_left; focus (intro uu hu; clear hu; go_simp; try with_reducible rfl)
      refine wpAnyH_ready (rs := [14]) (by kernel_rfl) (by simp) ?_; refine (AllReadyH.cons rfl (fun K hK => ?_) AllReadyH.nil); rw [if_pos (by kernel_rfl)]; go_simp
      have R3 := hide (R2.out.set 5 (.int .i64 (macS m b)))
      refine hK.out _ _ (R3.out.cell (j := 0) rfl) (fun hS => ?_)
      clear hK K
      refine wpAnyH_done (by kernel_rfl) ?_ _
      skip
      clear q0 q5 zq y0 y4 y5 z4 z5
      have HB2 : Hid (Below g w (((wr.setCell ⟨g, 4, none⟩ (.int .i64 f')).drew).setCell ⟨g, 5, none⟩ (.int .i64 (macS m b)))) := (((HB.out.setCell (p := ⟨g, 4, none⟩) (Nat.le_refl _) _).drew).setCell (p := ⟨g, 5, none⟩) (Nat.le_refl _) _)
      go_wp2_with fail
      go_round
      case rel => exact ⟨k + 1, by go_num, by omega, by rw [HT1.out, HT2.out]; exact R3.out, HB2.out⟩
      case measure => simp [intOf]; omega
    · obtain rfl : k = key.size := by omega
      have hE : (bys key).take key.size = bys key := List.take_of_length_le (by rw [bys_len]; omega)
      rw [hE] at R
      have RS := hide R
      clear R hE
      go_wp2_with fail
      go_end0
      exact ⟨rfl, RS.out, HB.out⟩
theorem onceNot (x : Bool) (w : World) : (Op.unary .not (.bool x)).run Tryz.prog w = .ok (.bool (!x)) w := rfl
set_option maxRecDepth 100000 in
set_option maxHeartbeats 1600000 in
theorem onceSlow (key : ByteArray) (g : Nat) (w : World) (hk : key.size ≤ maxLen) (h : RowIs w g 119 [.string key, .int .u32 0, .int .i32 0, .int .u32 0, .int .i64 0, .int .i64 0]) :
    Calls Tryz.prog 124 #[.pointer (some ⟨g, 1, none⟩), (.func (.func 117) #[.pointer (some ⟨g, 0, none⟩)] #[])] w fun e w' => e = .returned (.tuple #[]) ∧ RowIs w' g 119 [.string key, .int .u32 1, .int .i32 0, .int .u32 0, .int .i64 (facL 1 (bys key)), .int .i64 (macL 0 (bys key))] ∧ Below g w w' := by
  have R1 := h.set 2 (.int .i32 1)
  have B1 : Below g w (w.setCell ⟨g, 2, none⟩ (.int .i32 1)) := (Below.refl g w).setCell (p := ⟨g, 2, none⟩) (Nat.le_refl _) _
  have x2 := h.cell (j := 2) rfl
  have z2 := h.frozen 2
  have y1 := R1.cell (j := 1) rfl
  have hl := run_call_load (P := Tryz.prog) Tryz.func125 (by kernel_rfl) (by kernel_rfl) (by kernel_rfl) .u32 (by kernel_rfl) (w := w.setCell ⟨g, 2, none⟩ (.int .i32 1)) (a := ⟨g, 1, none⟩) (x := 0) y1
  have hnot := onceNot
  have HR1 := hide R1; have HB1 := hide B1
  clear R1 B1 h
  go_enter_defers Tryz.func124, Tryz.ntmps124
  go_wp2_with (go_at_call 126; refine (oLock ⟨g, 2, none⟩ _ x2 z2).mono ?_; rintro e w' ⟨rfl, rfl⟩)
  go_wp2_with (first | (go_at_call 123; go_in) | (go_at_call 117; refine (implFold key 0 1 g _ hk HR1.out).mono ?_; rintro e w2 ⟨rfl, R2, b2⟩; refine Hid.out ?_))
  have HR2 := hide R2
  have HB2 : Hid (Below g w w2) := HB1.out.trans b2
  clear R2 b2
  refine hide ?_
  go_wp2
  refine leaves_cons (f := 128) (args := #[.pointer (some ⟨g, 1, none⟩), .bool true]) (by simp) (by simp [go_sem]) ?_
  refine (oStore ⟨g, 1, none⟩ (.int .u32 0) .returning _ (HR2.out.cell (j := 1) rfl) (HR2.out.frozen 1)).mono ?_
  rintro e u' w3 ⟨rfl, rfl, rfl⟩
  refine leaves_cons (f := 127) (args := #[.pointer (some ⟨g, 2, none⟩)]) (by simp [settle]) (by simp [go_sem]) ?_
  have R3 : RowIs (w2.drew.setCell ⟨g, 1, none⟩ (.int .u32 1)) g 119 [.string key, .int .u32 1, .int .i32 1, .int .u32 0, .int .i64 (facL 1 (bys key)), .int .i64 (macL 0 (bys key))] := RowIs.set (w := w2.drew) HR2.out 1 (.int .u32 1)
  have R4 := R3.set 2 (.int .i32 0)
  have B4 : Below g w ((w2.drew.setCell ⟨g, 1, none⟩ (.int .u32 1)).setCell ⟨g, 2, none⟩ (.int .i32 0)) := ((HB2.out.drew.setCell (p := ⟨g, 1, none⟩) (Nat.le_refl _) _).setCell (p := ⟨g, 2, none⟩) (Nat.le_refl _) _)
  refine (oUnlock ⟨g, 2, none⟩ _ _ (R3.cell (j := 2) rfl) (R3.frozen 2)).mono ?_
  rintro e u' w4 ⟨rfl, rfl, rfl⟩
  have Q4 := hide (And.intro R4 B4)
  clear R3 R4 B4 HR2 HB2 HR1 HB1
  simp [Leaves, settle, results, Tryz.results124]
  exact Q4.out
set_option maxRecDepth 100000 in
set_option maxHeartbeats 1600000 in
theorem onceFirst (key : ByteArray) (g : Nat) (w : World) (hk : key.size ≤ maxLen) (h : RowIs w g 119 [.string key, .int .u32 0, .int .i32 0, .int .u32 0, .int .i64 0, .int .i64 0]) :
    Calls Tryz.prog 116 #[.pointer (some ⟨g, 1, none⟩), (.func (.func 117) #[.pointer (some ⟨g, 0, none⟩)] #[])] w fun e w' => e = .returned (.tuple #[]) ∧ RowIs w' g 119 [.string key, .int .u32 1, .int .i32 0, .int .u32 0, .int .i64 (facL 1 (bys key)), .int .i64 (macL 0 (bys key))] ∧ Below g w w' := by
  have x1 := h.cell (j := 1) rfl
  have hl := run_call_load (P := Tryz.prog) Tryz.func125 (by kernel_rfl) (by kernel_rfl) (by kernel_rfl) .u32 (by kernel_rfl) x1
  have hnot := onceNot
  have H := hide h
  clear h
  go_enter Tryz.func116, Tryz.ntmps116
  go_wp2_with (first | (go_at_call 123; go_in) | (go_at_call 124; refine (onceSlow key g _ hk H.out).mono ?_; rintro e w2 ⟨rfl, R2, b2⟩; refine Hid.out ?_))
  have Q := hide (And.intro R2 b2)
  clear R2 b2
  refine hide ?_
  go_wp2
  go_end0
  exact ⟨rfl, Q.out⟩
theorem onceDone (key : ByteArray) (f m : Int) (g : Nat) (w : World) (h : RowIs w g 119 [.string key, .int .u32 1, .int .i32 0, .int .u32 0, .int .i64 f, .int .i64 m]) (fv : Value) :
    Calls Tryz.prog 116 #[.pointer (some ⟨g, 1, none⟩), fv] w fun e w' => e = .returned (.tuple #[]) ∧ w' = w := by
  have x1 := h.cell (j := 1) rfl
  have hl := run_call_load (P := Tryz.prog) Tryz.func125 (by kernel_rfl) (by kernel_rfl) (by kernel_rfl) .u32 (by kernel_rfl) x1
  have hnot := onceNot
  clear h
  go_enter Tryz.func116, Tryz.ntmps116
  go_wp2
  go_end0
  exact ⟨rfl, rfl⟩
end Go.Proofs.YtfemmnhfllbgjaaGreatDoor
