/- The library's sync.Once in a signer that the call made, one goroutine: the first Do folds the key, a later one does nothing; the program's mac. -/
import Derived.Test.YtnadephjbglcfaaDoorTokWay
import Derived.Test.YtnadephjbglcfaaDoorTokSpec1
import Derived.Test.YtnadephjbglcfaaDoorRowIs
import Derived.Test.YtnadephjbglcfaaDoorHeapRows
import Derived.Tactics
import Derived.Tactics2
import Derived.Defers
import Derived.Laws.Pointers
import Derived.Laws.LoneSync
import Derived.RegionTactic
import Derived.RegionCalls

namespace Go.Proofs.YtnadephjbglcfaaDoor
open Go.RowKit
set_option maxRecDepth 100000
set_option linter.unusedSimpArgs false
set_option linter.unusedVariables false
theorem oDisable (w : World) : (callFunc 83 #[]).run Tryd.prog w = .ok (.value (.tuple #[])) w := run_call_mark0 Tryd.func83 (by kernel_rfl) (by kernel_rfl) (by kernel_rfl) .disable (by kernel_rfl) w
theorem oEnable (w : World) : (callFunc 85 #[]).run Tryd.prog w = .ok (.value (.tuple #[])) w := run_call_mark0 Tryd.func85 (by kernel_rfl) (by kernel_rfl) (by kernel_rfl) .enable (by kernel_rfl) w
theorem oAcquire (a : Addr) (w : World) : (callFunc 86 #[.pointer (some a)]).run Tryd.prog w = .ok (.value (.tuple #[])) w := run_call_marked Tryd.func86 (by kernel_rfl) (by kernel_rfl) (by kernel_rfl) .acquire (by kernel_rfl) a w
theorem oRelease (a : Addr) (w : World) : (callFunc 88 #[.pointer (some a)]).run Tryd.prog w = .ok (.value (.tuple #[])) w := run_call_marked Tryd.func88 (by kernel_rfl) (by kernel_rfl) (by kernel_rfl) .releaseMerge (by kernel_rfl) a w
theorem oStore (a : Addr) (x : Value) (u : FrameMode) (w : World) (hc : w.cell? a = some x) (hz : w.frozen? a = false) :
    CallsD Tryd.prog 75 #[.pointer (some a), .bool true] u w fun e u' w' => u' = u ∧ (e = .returned (.tuple #[]) ∧ w' = w.drew.setCell a (.int .u32 1)) := by
  have hc' : w.drew.cell? a = some x := by go_simp
  have hz' : w.drew.frozen? a = false := by go_simp
  have hst := run_call_store (P := Tryd.prog) Tryd.func81 (by kernel_rfl) (by kernel_rfl) (by kernel_rfl) (by kernel_rfl) (k := .u32) (y := 1) hc' hz'
  go_enter_d Tryd.func75, Tryd.ntmps75
  go_wp2
  go_region_calls
  all_goals (go_end0; exact ⟨rfl, rfl⟩)
theorem oUnlock (a : Addr) (u : FrameMode) (w : World) (hc : w.cell? a = some (.int .i32 1)) (hz : w.frozen? a = false) :
    CallsD Tryd.prog 74 #[.pointer (some a)] u w fun e u' w' => u' = u ∧ (e = .returned (.tuple #[]) ∧ w' = w.setCell a (.int .i32 0)) := by
  have hd := oDisable
  have he := oEnable
  have hr := oRelease
  have hadd := run_call_add (P := Tryd.prog) Tryd.func89 (by kernel_rfl) (by kernel_rfl) (by kernel_rfl) .i32 (by kernel_rfl) (y := -1) (s := 0) hc hz (by simp [go_sem]; rfl)
  have hcv := run_convert_to_unsafe (P := Tryd.prog) (src := 119) (dst := 123) Tryd.underlying119 Tryd.underlying123 (by kernel_rfl) hc
  go_enter_d Tryd.func74, Tryd.ntmps74
  go_wp2
  go_end0
  go_wp2
  first | done | (go_end0; exact ⟨rfl, rfl⟩)
theorem oLock (a : Addr) (w : World) (hc : w.cell? a = some (.int .i32 0)) (hz : w.frozen? a = false) :
    Calls Tryd.prog 73 #[.pointer (some a)] w fun e w' => e = .returned (.tuple #[]) ∧ w' = w.setCell a (.int .i32 1) := by
  have hd := oDisable
  have he := oEnable
  have ha := oAcquire
  have hcas := run_call_cas_hit (P := Tryd.prog) Tryd.func84 (by kernel_rfl) (by kernel_rfl) (by kernel_rfl) .i32 (by kernel_rfl) (y := 1) hc hz
  have hc' : (w.setCell a (.int .i32 1)).cell? a = some (.int .i32 1) := World.cell?_setCell_same w a _ hc
  have hcv := run_convert_to_unsafe (P := Tryd.prog) (src := 119) (dst := 123) Tryd.underlying119 Tryd.underlying123 (by kernel_rfl) hc'
  go_enter Tryd.func73, Tryd.ntmps73
  go_wp2
  first | go_end0 | (simp only [Exit.inBlock, Exit.then]; refine bodyPost_ret (results_none rfl _ _ _) rfl ?_) | refine bodyPost_ret (results_none rfl _ _ _) rfl ?_
  go_wp2
  first | done | (go_end0; exact ⟨rfl, rfl⟩)
theorem implMixed (h b : Int) (w : World) (h0 : 0 ≤ h) (h1 : h ≤ 2147483646) (b0 : 0 ≤ b) (b1 : b ≤ 255) : Calls Tryd.prog 36 #[.int .i64 h, .int .u8 b] w fun x w' => x = .returned (.int .i64 (macS h b)) ∧ w' = w := by
  have e1 : IntKind.i64.wrap (h * 1000003) = h * 1000003 := by rw [IntKind.wrap_i64]; omega
  have e2 : IntKind.i64.wrap (h * 1000003 + b) = h * 1000003 + b := by rw [IntKind.wrap_i64]; omega
  have e3 : IntKind.i64.wrap (h * 1000003 + b + 1) = h * 1000003 + b + 1 := by rw [IntKind.wrap_i64]; omega
  have e4 : (h * 1000003 + b + 1).tmod 2147483647 = macS h b := by unfold macS; exact Int.tmod_eq_emod_of_nonneg (by omega)
  have hm1 := macS_range h b
  have e5 : IntKind.i64.wrap (macS h b) = macS h b := by rw [IntKind.wrap_i64]; omega
  go_enter Tryd.func36, Tryd.ntmps36
  go_wp2_with fail
  go_ret
  exact ⟨rfl, rfl⟩
end Go.Proofs.YtnadephjbglcfaaDoor
