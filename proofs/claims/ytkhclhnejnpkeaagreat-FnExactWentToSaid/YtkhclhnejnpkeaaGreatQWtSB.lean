/- The model's Encoded. -/
import Derived.Test.YtkhclhnejnpkeaaGreatQWtBM
import Derived.Test.YtkhclhnejnpkeaaGreatQWtG7
import Derived.Test.YtkhclhnejnpkeaaGreatQWtG12
import Derived.Test.YtkhclhnejnpkeaaGreatQWtG6
import Derived.Test.YtkhclhnejnpkeaaGreatQWtG3
import Derived.Deep.Cut
import Derived.Test.YtkhclhnejnpkeaaGreatQWtLookup
import Derived.Test.YtkhclhnejnpkeaaGreatQWtLitUnpack2
import Derived.Handy
import Derived.Test.YtkhclhnejnpkeaaGreatQWtG4
import Derived.Lib.SmallJoins
import Derived.Lib.EndianBits
import Derived.RangeFuncNested
import Derived.RangeFuncBound
import Derived.RangeFuncCalls
import Derived.RangeFuncLeaves
import Derived.Shelf.Abstract
import Derived.Shelf.RegionOpen
import Derived.WalkKit
import Derived.OwnWalkIn
import Derived.TacticsInMore
import Derived.LoopNIn
import Derived.LoopIn
import Derived.Maps.AppendAt
import Derived.Test.YtkhclhnejnpkeaaGreatQWtG2
import Derived.RangeFuncBox
import Derived.Laws.AppendOwn
import Derived.Laws.IdiomStrings
import Derived.Lib.BufferRead
import Derived.Test.YtkhclhnejnpkeaaGreatQWtBase
import Derived.OrdersIn
import Derived.TacticsIn
import Derived.Test.YtkhclhnejnpkeaaGreatQWtG5
import Derived.Laws.MakeOwn
import Derived.RegionTactic
import Derived.Deep.DeepCutAuto
import Derived.Lib.AppendStr
namespace Go.Proofs.YtkhclhnejnpkeaaGreat
open Go.RowKit
set_option maxRecDepth 100000
set_option linter.unusedSimpArgs false
set_option linter.unusedVariables false

theorem okFs_bad {l : List Fd} (k : Nat) (hk : k < l.length) (h : okF l[k] = false) : okFs l = false := by
  cases e : okFs l
  · rfl
  · simp only [okFs, Bool.and_eq_true, List.all_eq_true] at e
    have := e.1 _ (List.getElem_mem hk); rw [h] at this; cases this
theorem okFs_all {l : List Fd} (h : ∀ f ∈ l, okF f = true) : okFs l = decide (l.length ≤ 20) := by
  have : l.all okF = true := List.all_eq_true.2 h
  simp [okFs, this]

set_option maxHeartbeats 1000000 in
theorem specFields (L : List Fd) (v : Value) (w : World) (hr0 : Reads w v L.length 2 (fv L)) (hf : ∀ f ∈ L, f.fine) :
    Calls Tryz.prog 65 #[v] w fun x w' => x = .returned (.bool (okFs L)) ∧ Below w.heap.size w w' := by
  obtain ⟨hl, ad, cap, rfl, h1, h2, h3⟩ := hr0
  have H3 := hide h3; have HF := hide hf
  clear h3 hf
  unfold maxLen at h2
  obtain ⟨R, hR⟩ : ∃ R, R = okFs L := ⟨_, rfl⟩
  rw [← hR]
  have HR := hide hR
  clear hR
  go_enter Tryz.func65, Tryz.ntmps65
  go_wp2_with fail
  go_loopw [3] (fun i wr => ∃ (k : Nat), i = .int .i64 k ∧ k ≤ L.length ∧ (∀ f ∈ L.take k, okF f = true) ∧ Below w.heap.size w wr) (fun i _ => L.length - (intOf i).toNat)
  case atStart => exact ⟨0, rfl, Nat.zero_le _, by simp, Below.refl _ _⟩
  case round =>
    obtain ⟨k, rfl, hk, hall, hb⟩ := hrel
    by_cases hlt : k < L.length
    · obtain ⟨b, o, rfl, hbw, hc⟩ := H3.out (by omega)
      obtain ⟨s0, s1⟩ := fv_get L k hlt
      have hfk := HF.out _ (List.getElem_mem hlt)
      have HA := hide (all_take_succ L k hlt hall)
      have HB := hide (okFs_bad k hlt)
      obtain ⟨f, hff⟩ : ∃ f, f = L[k] := ⟨_, rfl⟩
      rw [← hff] at s0 s1 hfk HA HB
      have c0 : wr.cell? ⟨b, o + k * 2, none⟩ = some (.string f.n) := by rw [hb.cell (p := ⟨b, o + k * 2, none⟩) hbw]; exact hc _ _ s0
      have c1 : wr.cell? ⟨b, o + k * 2 + 1, none⟩ = some (.string f.v) := by rw [hb.cell (p := ⟨b, o + k * 2 + 1, none⟩) hbw]; exact hc _ _ s1
      clear hc s0 s1 hff hall
      cases hok : okF f
      · have hRf := HR.out.trans (HB.out hok)
        subst hRf
        clear HB HR HA
        go_wp2_with fail
        refine (specField f _ hfk).mono ?_; rw [hok]; rintro x w1 ⟨rfl, hb1⟩
        go_wp2_with fail
        go_ret
        exact ⟨rfl, bchain hb hb1⟩
      · have HAA := hide (HA.out hok)
        clear HA HB
        go_wp2_with fail
        refine (specField f _ hfk).mono ?_; rw [hok]; rintro x w1 ⟨rfl, hb1⟩
        go_wp2_with fail
        exact ⟨⟨k + 1, by go_num, by omega, HAA.out, bchain hb hb1⟩, by simp [intOf]; omega⟩
    · obtain rfl : k = L.length := by omega
      rw [List.take_length] at hall
      have hRf := HR.out.trans (okFs_all hall)
      subst hRf
      clear HR hall
      go_wp2_with fail
      go_ret
      exact ⟨by simp; omega, hb⟩

end Go.Proofs.YtkhclhnejnpkeaaGreat
