/- What a shape stands for; a table in memory of its own; what a block has of a Field, and the table behind it. -/
import Derived.Test.YtfmeinkhdgbgjaaGreatQTkBM
import Derived.Test.YtfmeinkhdgbgjaaGreatQTkG7
import Derived.Test.YtfmeinkhdgbgjaaGreatQTkG14
import Derived.Test.YtfmeinkhdgbgjaaGreatQTkG13
import Derived.Test.YtfmeinkhdgbgjaaGreatQTkLitUnpack2
import Derived.Handy
import Derived.Test.YtfmeinkhdgbgjaaGreatQTkG4
import Derived.Test.YtfmeinkhdgbgjaaGreatQTkBase
import Derived.Test.YtfmeinkhdgbgjaaGreatQTkG2
import Derived.Lib.SmallJoins
import Derived.Lib.EndianBits
import Derived.Test.YtfmeinkhdgbgjaaGreatQTkG3
import Derived.RangeFuncNested
import Derived.RangeFuncBound
import Derived.RangeFuncCalls
import Derived.RangeFuncLeaves
import Derived.Shelf.Abstract
import Derived.Shelf.RegionOpen
import Derived.WalkKit
import Derived.OwnWalkIn
import Derived.TacticsInMore
import Derived.LoopNIn
import Derived.LoopIn
import Derived.Maps.AppendAt
import Derived.RangeFuncBox
import Derived.Laws.AppendOwn
import Derived.Laws.IdiomStrings
import Derived.Lib.BufferRead
import Derived.OrdersIn
import Derived.TacticsIn
import Derived.Test.YtfmeinkhdgbgjaaGreatQTkG5
import Derived.Laws.MakeOwn
import Derived.RegionTactic
namespace Go.Proofs.YtfmeinkhdgbgjaaGreat
open Go.RowKit
set_option maxRecDepth 100000
set_option linter.unusedSimpArgs false
set_option linter.unusedVariables false

set_option maxHeartbeats 1000000 in
theorem implOwn (L : List Fd) (room : Int) (v : Value) (w : World) (hr0 : Reads w v L.length 2 (fv L)) (hf : ∀ f ∈ L, f.fine) :
    Calls Tryz.prog 182 #[.agg #[.int .i64 room, v]] w fun x w' => ∃ v', x = .returned (.tuple #[.agg #[.int .i64 (resizedD room L room).1.1, v'], .bool (resizedD room L room).2]) ∧ w'.ownsRow w.heap.size 163 2 v' (resizedD room L room).1.2.length (fv (resizedD room L room).1.2) ∧ Below w.heap.size w w' := by
  have HR := hide hr0
  obtain ⟨ad, cap, rfl, _⟩ := hr0.2
  clear hr0
  have HF := hide hf
  clear hf
  obtain ⟨D, hD⟩ : ∃ D, resizedD room L room = D := ⟨_, rfl⟩
  rw [hD]
  go_enter Tryz.func182, Tryz.ntmps182
  go_wp2_with fail
  refine (implResized L room _ room _ (HR.out.new (by repeat' (first | (with_reducible exact Below.refl _ _) | (with_reducible refine Below.drew ?_) | (with_reducible refine bo_drewN _ ?_) | (with_reducible refine bo_alloc ?_ _) | (refine bchain ?_ (by with_reducible assumption)) | (with_reducible refine Below.setCell ?_ ?_ _) | go_size))) HF.out).mono ?_; rw [hD]; rintro x w1 ⟨v1, rfl, ho, hb1⟩
  have hc1 := fun o => hb1.cell (p := ⟨w.heap.size + 1, o, none⟩) (by first | (simp; done) | (simp; omega) | omega); have hf1 := fun o => hb1.frozen (p := ⟨w.heap.size + 1, o, none⟩) (by first | (simp; done) | (simp; omega) | omega); have hz2 := hb1.size; (try simp at hz2)
  have hbw : Below w.heap.size w w1 := (by repeat' (first | (with_reducible exact Below.refl _ _) | (with_reducible refine Below.drew ?_) | (with_reducible refine bo_drewN _ ?_) | (with_reducible refine bo_alloc ?_ _) | (refine bchain ?_ (by with_reducible assumption)) | (with_reducible refine Below.setCell ?_ ?_ _) | go_size))
  obtain ⟨ad1, cap1, rfl, _⟩ := owns_form ho
  have hlt := ho.lt
  have HO := hide ho
  clear ho hD
  go_wp2_with fail
  refine bodyPost_ret (v := (.tuple #[.agg #[.int .i64 D.1.1, .slice ad1 D.1.2.length cap1], .bool D.2])) (by simp [results, Tryz.results182, go_sem, *]) rfl ?_
  have hv : ∀ k, (Value.slice ad1 D.1.2.length cap1).ownBlock = some k → w.heap.size + 1 + 1 ≤ k := fun k hk => by have := (hlt k hk).1; simpa using this
  have ho : w1.ownsRow w.heap.size 163 2 (.slice ad1 D.1.2.length cap1) D.1.2.length (fv D.1.2) := owns_base HO.out fun k hk => by have := hv k hk; omega
  exact ⟨_, rfl, (by repeat' (first | (with_reducible exact ho) | (with_reducible refine owns_far _ ?_ hv _ _ ?_) | (with_reducible refine World.ownsRow.alloc ?_ _) | (simp; done) | (simp; omega))), (by repeat' (first | (with_reducible exact Below.refl _ _) | (with_reducible refine Below.drew ?_) | (with_reducible refine bo_drewN _ ?_) | (with_reducible refine bo_alloc ?_ _) | (refine bchain ?_ (by with_reducible assumption)) | (with_reducible refine Below.setCell ?_ ?_ _) | go_size))⟩
end Go.Proofs.YtfmeinkhdgbgjaaGreat
