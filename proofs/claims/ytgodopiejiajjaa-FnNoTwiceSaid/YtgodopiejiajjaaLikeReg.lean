/- Two Registries of the same data are alike: the law's own comparing. -/
import Derived.Test.YtgodopiejiajjaaRegSpec1

namespace Go.Proofs.Ytgodopiejiajjaa
open Go.RowKit
set_option maxRecDepth 100000
set_option linter.unusedSimpArgs false
set_option linter.unusedVariables false
set_option maxHeartbeats 2000000 in
theorem likeReg1 (d : RegistryD) (v v' : Value) (w : World) (hr0 : RdR entryS w v d.es) (hr1 : RdR entryS w v' d.es) :
    Calls Try.prog 12 #[.agg #[.int .i64 d.lim, .int .i64 d.top, v], .agg #[.int .i64 d.lim, .int .i64 d.top, v']] w fun x w' => x = .returned (.bool true) ∧ Below w.heap.size w w' := by
  obtain ⟨ad, cap, rfl, h1, h2⟩ := hr0.form
  obtain ⟨ad', cap', rfl, h1', h2'⟩ := hr1.form
  have HR := hide hr0; have HR' := hide hr1
  clear hr0 hr1
  go_enter Try.func12, Try.ntmps12
  go_wp2_with fail
  generalize hV : (w.alloc (.cells #[.int .i64 d.lim, .int .i64 d.top, .slice ad d.es.length cap] 26)).alloc (.cells #[.int .i64 d.lim, .int .i64 d.top, .slice ad' d.es.length cap'] 26) = V
  have hbV : Below w.heap.size w V := by rw [← hV]; exact bo_alloc ((Below.refl _ _).alloc (Nat.le_refl _) _) _
  have HA : Hid (RowIs V w.heap.size 26 [.int .i64 d.lim, .int .i64 d.top, .slice ad d.es.length cap]) := by show RowIs _ _ _ _; rw [← hV]; exact (rowIs_new w 26 [.int .i64 d.lim, .int .i64 d.top, .slice ad d.es.length cap]).alloc _
  have HB : Hid (RowIs V (w.heap.size + 1) 26 [.int .i64 d.lim, .int .i64 d.top, .slice ad' d.es.length cap']) := by show RowIs _ _ _ _; rw [← hV]; simpa using rowIs_new (w.alloc (.cells #[.int .i64 d.lim, .int .i64 d.top, .slice ad d.es.length cap] 26)) 26 [.int .i64 d.lim, .int .i64 d.top, .slice ad' d.es.length cap']
  clear hV
  have a0 := HA.out.cell (j := 0) rfl
  have a1 := HA.out.cell (j := 1) rfl
  have a2 := HA.out.cell (j := 2) rfl
  have b0 := HB.out.cell (j := 0) rfl
  have b1 := HB.out.cell (j := 1) rfl
  have b2 := HB.out.cell (j := 2) rfl
  have hlB := HB.out.lt
  go_wp2_with fail
  clear a0 a1 a2 b0 b1 b2 hlB
  go_loopw [5] (fun i wr => ∃ (k : Nat), i = .int .i64 k ∧ k ≤ d.es.length ∧ Hid (Below V.heap.size V wr)) (fun i _ => d.es.length - (intOf i).toNat)
  case atStart => exact ⟨0, rfl, Nat.zero_le _, Below.refl _ _⟩
  case round =>
    obtain ⟨k, rfl, hk, HBV⟩ := hrel
    have a2 := (HA.out.new HBV.out).cell (j := 2) rfl
    have b2 := (HB.out.new HBV.out).cell (j := 2) rfl
    have hlB := (HB.out.new HBV.out).lt
    by_cases hlt : k < d.es.length
    · obtain ⟨b, o, cs, rfl, hb1, rfl, hc⟩ := ((HR.out.new hbV).new HBV.out).at k hlt
      obtain ⟨b', o', cs', rfl, hb2, rfl, hc'⟩ := ((HR'.out.new hbV).new HBV.out).at k hlt
      have c0 : wr.cell? ⟨b, o + k * 2, none⟩ = some (.int .i64 d.es[k].id) := hc 0 _ rfl
      have c1 : wr.cell? ⟨b, o + k * 2 + 1, none⟩ = some (.int .i64 d.es[k].state) := hc 1 _ rfl
      have e0 : wr.cell? ⟨b', o' + k * 2, none⟩ = some (.int .i64 d.es[k].id) := hc' 0 _ rfl
      have e1 : wr.cell? ⟨b', o' + k * 2 + 1, none⟩ = some (.int .i64 d.es[k].state) := hc' 1 _ rfl
      have hkI : (k : Int) < d.es.length := by omega
      clear hc hc'
      go_wp2_with fail
      go_quiet (fail)
      go_wp2_with fail
      go_roundw
      case rel => exact ⟨k + 1, by go_num, by omega, bo_drewN _ HBV.out⟩
      case measure => simp [intOf]; omega
    · go_wp2_with fail
      go_ret
      exact ⟨rfl, bchain hbV HBV.out⟩
end Go.Proofs.Ytgodopiejiajjaa
