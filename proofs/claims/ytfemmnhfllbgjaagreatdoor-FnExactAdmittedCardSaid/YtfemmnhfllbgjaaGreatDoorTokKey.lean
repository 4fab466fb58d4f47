/- The program's mac: a number by the key that was folded. -/
import Derived.Test.YtfemmnhfllbgjaaGreatDoorTokMac
import Derived.Deep.RegionHeld3
import Derived.Deep.DeepCutAuto



namespace Go.Proofs.YtfemmnhfllbgjaaGreatDoor
open Go.RowKit
set_option maxRecDepth 100000
set_option linter.unusedSimpArgs false
set_option linter.unusedVariables false
set_option maxHeartbeats 1600000 in
theorem mixedKey1 (key : ByteArray) (h : Int) (g : Nat) (w : World) (hk : key.size ≤ maxLen) (h0 : 0 ≤ h) (h1 : h ≤ 2147483646) (R : RowIs w g 119 [.string key, .int .u32 0, .int .i32 0, .int .u32 0, .int .i64 0, .int .i64 0]) :
    Calls Tryz.prog 101 #[.pointer (some ⟨g, 0, none⟩), .int .i64 h] w fun e w' => e = .returned (.int .i64 (macL h (bys key))) ∧ RowIs w' g 119 [.string key, .int .u32 1, .int .i32 0, .int .u32 0, .int .i64 (facL 1 (bys key)), .int .i64 (macL 0 (bys key))] ∧ Below g w w' := by
  have ev := mac_fold (bys key) h0 h1
  have rv := macL_range (bys key) h0 h1
  have rf := facL_range (f := 1) (bys key) (by decide) (by decide)
  have rm := macL_range (h := 0) (bys key) (by decide) (by decide)
  have hfirst := onceFirst key g w hk R
  obtain ⟨F, hF⟩ : ∃ F, facL 1 (bys key) = F := ⟨_, rfl⟩
  obtain ⟨M, hM⟩ : ∃ M, macL 0 (bys key) = M := ⟨_, rfl⟩
  obtain ⟨V, hV⟩ : ∃ V, macL h (bys key) = V := ⟨_, rfl⟩
  rw [hF, hM] at ev hfirst ⊢
  rw [hV] at ev rv ⊢
  rw [hF] at rf
  rw [hM] at rm
  clear hF hM hV R
  have p0 : 0 ≤ h * F := Int.mul_nonneg h0 rf.1
  have p1 : h * F ≤ 2147483646 * 2147483646 := Int.mul_le_mul h1 rf.2 rf.1 (by decide)
  have e1 : IntKind.i64.wrap (h * F) = h * F := by rw [IntKind.wrap_i64]; omega
  have e2 : IntKind.i64.wrap (h * F + M) = h * F + M := by rw [IntKind.wrap_i64]; omega
  have e3 : (h * F + M).tmod 2147483647 = V := by rw [← ev]; exact Int.tmod_eq_emod_of_nonneg (by omega)
  have e4 : IntKind.i64.wrap V = V := by rw [IntKind.wrap_i64]; omega
  clear ev p0 p1
  have hmf : ∀ (fn : Fn) (first cap : Array Value) (w : World), (Instr.makeFunc fn first cap).run Tryz.prog w = .ok (.func fn first cap) w := fun _ _ _ _ => rfl
  go_enter Tryz.func101, Tryz.ntmps101
  go_wp2_with fail
  refine hfirst.mono ?_; rintro e w2 ⟨rfl, R2, b2⟩
  have HR := hide R2; have HB := hide b2
  clear R2 b2 hfirst
  go_wp2_with fail
  have y4 := HR.out.cell (j := 4) rfl; have y5 := HR.out.cell (j := 5) rfl; refine wp_region_held_drew (S := (fun u => u.cell? ⟨g, 4, none⟩ = some (.int .i64 F) ∧ u.cell? ⟨g, 5, none⟩ = some (.int .i64 M))) (by kernel_rfl) (And.intro y4 y5) (fun hS => ?_)
  refine wpAnyH_take (i := 0) (v := ?_) rfl (by kernel_rfl) (by kernel_rfl) (by kernel_rfl) (fun _ _ _ h => h) (Or.inl ⟨by kernel_rfl, ?_⟩) hS ?_; rotate_left; focus (intro uu hu; clear hu; go_simp; try with_reducible rfl)
  refine wpAnyH_take (i := 1) (v := ?_) rfl (by kernel_rfl) (by kernel_rfl) (by kernel_rfl) (fun _ _ _ h => h) (Or.inl ⟨by kernel_rfl, ?_⟩) hS ?_; rotate_left; focus (intro uu hu; clear hu; go_simp; try with_reducible rfl)
  refine wpAnyH_take (i := 2) (v := ?_) rfl (by kernel_rfl) (by kernel_rfl) (by kernel_rfl) (fun _ _ _ h => h) (Or.inl ⟨by kernel_rfl, ?_⟩) hS ?_; rotate_left; focus (intro uu hu; clear hu; go_simp; try with_reducible rfl)
  refine wpAnyH_take (i := 3) (v := ?_) rfl (by kernel_rfl) (by kernel_rfl) (by kernel_rfl) (fun _ _ _ h => h) (Or.inl ⟨by kernel_rfl, ?_⟩) hS ?_; rotate_left; focus (intro uu hu; clear hu; go_simp; try with_reducible rfl)
  refine wpAnyH_take (i := 4) (v := (.int .i64 F)) rfl (by kernel_rfl) (by kernel_rfl) (by kernel_rfl) (fun _ _ _ h => h) (Or.inl ⟨by kernel_rfl, ?ld⟩) hS ?_; case ld => (intro uu hu; have hu2 := hu; obtain ⟨l0, l1⟩ := hu2; clear hu; go_simp)
  refine wpAnyH_take (i := 5) (v := (.int .i64 (h * F))) rfl (by kernel_rfl) (by kernel_rfl) (by kernel_rfl) (fun _ _ _ h => h) (Or.inl ⟨by kernel_rfl, ?ld⟩) hS ?_; case ld => (intro uu hu; have hu2 := hu; obtain ⟨l0, l1⟩ := hu2; clear hu; go_simp)
  refine wpAnyH_take (i := 6) (v := ?_) rfl (by kernel_rfl) (by kernel_rfl) (by kernel_rfl) (fun _ _ _ h => h) (Or.inl ⟨by kernel_rfl, ?_⟩) hS ?_; rotate_left; focus (intro uu hu; clear hu; go_simp; try with_reducible rfl)
  refine wpAnyH_take (i := 7) (v := ?_) rfl (by kernel_rfl) (by kernel_rfl) (by kernel_rfl) (fun _ _ _ h => h) (Or.inl ⟨by kernel_rfl, ?_⟩) hS ?_; rotate_left; focus (intro uu hu; clear hu; go_simp; try with_reducible rfl)
  refine wpAnyH_take (i := 8) (v := ?_) rfl (by kernel_rfl) (by kernel_rfl) (by kernel_rfl) (fun _ _ _ h => h) (Or.inl ⟨by kernel_rfl, ?_⟩) hS ?_; rotate_left; focus (intro uu hu; clear hu; go_simp; try with_reducible rfl)
  refine wpAnyH_take (i := 9) (v := (.int .i64 M)) rfl (by kernel_rfl) (by kernel_rfl) (by kernel_rfl) (fun _ _ _ h => h) (Or.inl ⟨by kernel_rfl, ?ld⟩) hS ?_; case ld => (intro uu hu; have hu2 := hu; obtain ⟨l0, l1⟩ := hu2; clear hu; go_simp)
  refine wpAnyH_take (i := 10) (v := (.int .i64 (h * F + M))) rfl (by kernel_rfl) (by kernel_rfl) (by kernel_rfl) (fun _ _ _ h => h) (Or.inl ⟨by kernel_rfl, ?ld⟩) hS ?_; case ld => (intro uu hu; have hu2 := hu; obtain ⟨l0, l1⟩ := hu2; clear hu; go_simp)
  refine wpAnyH_take (i := 11) (v := (.int .i64 V)) rfl (by kernel_rfl) (by kernel_rfl) (by kernel_rfl) (fun _ _ _ h => h) (Or.inl ⟨by kernel_rfl, ?ld⟩) hS ?_; case ld => (intro uu hu; have hu2 := hu; obtain ⟨l0, l1⟩ := hu2; clear hu; go_simp)
  refine wpAnyH_take (i := 12) (v := ?_) rfl (by kernel_rfl) (by kernel_rfl) (by kernel_rfl) (fun _ _ _ h => h) (Or.inl ⟨by kernel_rfl, ?_⟩) hS ?_; rotate_left; focus (intro uu hu; clear hu; go_simp; try with_reducible rfl)
  refine wpAnyH_done (by kernel_rfl) ?_ _
  skip
  clear hS y4 y5
  go_simp
  go_wp2_with fail
  go_ret
  exact ⟨rfl, HR.out, HB.out.drew⟩
set_option maxHeartbeats 1600000 in
theorem mixedKey2 (key : ByteArray) (h : Int) (g : Nat) (w : World) (h0 : 0 ≤ h) (h1 : h ≤ 2147483646) (R : RowIs w g 119 [.string key, .int .u32 1, .int .i32 0, .int .u32 0, .int .i64 (facL 1 (bys key)), .int .i64 (macL 0 (bys key))]) :
    Calls Tryz.prog 101 #[.pointer (some ⟨g, 0, none⟩), .int .i64 h] w fun e w' => e = .returned (.int .i64 (macL h (bys key))) ∧ Below g w w' := by
  have ev := mac_fold (bys key) h0 h1
  have rv := macL_range (bys key) h0 h1
  have rf := facL_range (f := 1) (bys key) (by decide) (by decide)
  have rm := macL_range (h := 0) (bys key) (by decide) (by decide)
  obtain ⟨F, hF⟩ : ∃ F, facL 1 (bys key) = F := ⟨_, rfl⟩
  obtain ⟨M, hM⟩ : ∃ M, macL 0 (bys key) = M := ⟨_, rfl⟩
  obtain ⟨V, hV⟩ : ∃ V, macL h (bys key) = V := ⟨_, rfl⟩
  rw [hF, hM] at ev R
  rw [hV] at ev rv ⊢
  rw [hF] at rf
  rw [hM] at rm
  clear hF hM hV
  have p0 : 0 ≤ h * F := Int.mul_nonneg h0 rf.1
  have p1 : h * F ≤ 2147483646 * 2147483646 := Int.mul_le_mul h1 rf.2 rf.1 (by decide)
  have e1 : IntKind.i64.wrap (h * F) = h * F := by rw [IntKind.wrap_i64]; omega
  have e2 : IntKind.i64.wrap (h * F + M) = h * F + M := by rw [IntKind.wrap_i64]; omega
  have e3 : (h * F + M).tmod 2147483647 = V := by rw [← ev]; exact Int.tmod_eq_emod_of_nonneg (by omega)
  have e4 : IntKind.i64.wrap V = V := by rw [IntKind.wrap_i64]; omega
  clear ev p0 p1
  have hmf : ∀ (fn : Fn) (first cap : Array Value) (w : World), (Instr.makeFunc fn first cap).run Tryz.prog w = .ok (.func fn first cap) w := fun _ _ _ _ => rfl
  have HR := hide R
  clear R
  go_enter Tryz.func101, Tryz.ntmps101
  go_wp2_with fail
  refine (onceDone key F M g _ HR.out _).mono ?_; rintro e w2 ⟨rfl, hsame⟩; obtain rfl := hsame.symm; clear hsame
  go_wp2_with fail
  have y4 := HR.out.cell (j := 4) rfl; have y5 := HR.out.cell (j := 5) rfl; refine wp_region_held_drew (S := (fun u => u.cell? ⟨g, 4, none⟩ = some (.int .i64 F) ∧ u.cell? ⟨g, 5, none⟩ = some (.int .i64 M))) (by kernel_rfl) (And.intro y4 y5) (fun hS => ?_)
  refine wpAnyH_take (i := 0) (v := ?_) rfl (by kernel_rfl) (by kernel_rfl) (by kernel_rfl) (fun _ _ _ h => h) (Or.inl ⟨by kernel_rfl, ?_⟩) hS ?_; rotate_left; focus (intro uu hu; clear hu; go_simp; try with_reducible rfl)
  refine wpAnyH_take (i := 1) (v := ?_) rfl (by kernel_rfl) (by kernel_rfl) (by kernel_rfl) (fun _ _ _ h => h) (Or.inl ⟨by kernel_rfl, ?_⟩) hS ?_; rotate_left; focus (intro uu hu; clear hu; go_simp; try with_reducible rfl)
  refine wpAnyH_take (i := 2) (v := ?_) rfl (by kernel_rfl) (by kernel_rfl) (by kernel_rfl) (fun _ _ _ h => h) (Or.inl ⟨by kernel_rfl, ?_⟩) hS ?_; rotate_left; focus (intro uu hu; clear hu; go_simp; try with_reducible rfl)
  refine wpAnyH_take (i := 3) (v := ?_) rfl (by kernel_rfl) (by kernel_rfl) (by kernel_rfl) (fun _ _ _ h => h) (Or.inl ⟨by kernel_rfl, ?_⟩) hS ?_; rotate_left; focus (intro uu hu; clear hu; go_simp; try with_reducible rfl)
  refine wpAnyH_take (i := 4) (v := (.int .i64 F)) rfl (by kernel_rfl) (by kernel_rfl) (by kernel_rfl) (fun _ _ _ h => h) (Or.inl ⟨by kernel_rfl, ?ld⟩) hS ?_; case ld => (intro uu hu; have hu2 := hu; obtain ⟨l0, l1⟩ := hu2; clear hu; go_simp)
  refine wpAnyH_take (i := 5) (v := (.int .i64 (h * F))) rfl (by kernel_rfl) (by kernel_rfl) (by kernel_rfl) (fun _ _ _ h => h) (Or.inl ⟨by kernel_rfl, ?ld⟩) hS ?_; case ld => (intro uu hu; have hu2 := hu; obtain ⟨l0, l1⟩ := hu2; clear hu; go_simp)
  refine wpAnyH_take (i := 6) (v := ?_) rfl (by kernel_rfl) (by kernel_rfl) (by kernel_rfl) (fun _ _ _ h => h) (Or.inl ⟨by kernel_rfl, ?_⟩) hS ?_; rotate_left; focus (intro uu hu; clear hu; go_simp; try with_reducible rfl)
  refine wpAnyH_take (i := 7) (v := ?_) rfl (by kernel_rfl) (by kernel_rfl) (by kernel_rfl) (fun _ _ _ h => h) (Or.inl ⟨by kernel_rfl, ?_⟩) hS ?_; rotate_left; focus (intro uu hu; clear hu; go_simp; try with_reducible rfl)
  refine wpAnyH_take (i := 8) (v := ?_) rfl (by kernel_rfl) (by kernel_rfl) (by kernel_rfl) (fun _ _ _ h => h) (Or.inl ⟨by kernel_rfl, ?_⟩) hS ?_; rotate_left; focus (intro uu hu; clear hu; go_simp; try with_reducible rfl)
  refine wpAnyH_take (i := 9) (v := (.int .i64 M)) rfl (by kernel_rfl) (by kernel_rfl) (by kernel_rfl) (fun _ _ _ h => h) (Or.inl ⟨by kernel_rfl, ?ld⟩) hS ?_; case ld => (intro uu hu; have hu2 := hu; obtain ⟨l0, l1⟩ := hu2; clear hu; go_simp)
  refine wpAnyH_take (i := 10) (v := (.int .i64 (h * F + M))) rfl (by kernel_rfl) (by kernel_rfl) (by kernel_rfl) (fun _ _ _ h => h) (Or.inl ⟨by kernel_rfl, ?ld⟩) hS ?_; case ld => (intro uu hu; have hu2 := hu; obtain ⟨l0, l1⟩ := hu2; clear hu; go_simp)
  refine wpAnyH_take (i := 11) (v := (.int .i64 V)) rfl (by kernel_rfl) (by kernel_rfl) (by kernel_rfl) (fun _ _ _ h => h) (Or.inl ⟨by kernel_rfl, ?ld⟩) hS ?_; case ld => (intro uu hu; have hu2 := hu; obtain ⟨l0, l1⟩ := hu2; clear hu; go_simp)
  refine wpAnyH_take (i := 12) (v := ?_) rfl (by kernel_rfl) (by kernel_rfl) (by kernel_rfl) (fun _ _ _ h => h) (Or.inl ⟨by kernel_rfl, ?_⟩) hS ?_; rotate_left; focus (intro uu hu; clear hu; go_simp; try with_reducible rfl)
  refine wpAnyH_done (by kernel_rfl) ?_ _
  skip
  clear hS y4 y5
  go_simp
  go_wp2_with fail
  go_ret
  exact ⟨rfl, (Below.refl g w).drew⟩
end Go.Proofs.YtfemmnhfllbgjaaGreatDoor
