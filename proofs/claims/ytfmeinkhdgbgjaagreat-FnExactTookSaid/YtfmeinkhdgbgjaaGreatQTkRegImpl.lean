/- The program's registry: RegistryOk, Live, Opened, Happened, Swept. -/
import Derived.Test.YtfmeinkhdgbgjaaGreatQTkG11
import Derived.Test.YtfmeinkhdgbgjaaGreatQTkG9
namespace Go.Proofs.YtfmeinkhdgbgjaaGreat
open Go.RowKit
set_option maxRecDepth 100000
set_option linter.unusedSimpArgs false
set_option linter.unusedVariables false
theorem implRegistryOk (d : RegistryD) (v : Value) (w : World) (hr : RdR entryS w v d.es) : Calls Tryz.prog 108 #[.agg #[.int .i64 d.lim, .int .i64 d.top, v]] w fun x w' => x = .returned (.bool (okRg d)) ∧ Below w.heap.size w w' := by
  obtain ⟨ad, cap, rfl, h1, h2⟩ := hr.form
  have HR := hide hr
  clear hr
  go_enter Tryz.func108, Tryz.ntmps108
  go_wp2_with fail
  refine (implRightR d _ _ (HR.out.new (by repeat' (first | (with_reducible exact Below.refl _ _) | (with_reducible refine Below.drew ?_) | (with_reducible refine bo_drewN _ ?_) | (with_reducible refine bo_alloc ?_ _) | (refine bchain ?_ (by with_reducible assumption)) | (with_reducible refine Below.setCell ?_ ?_ _) | go_size)))).mono ?_; rintro z w1 ⟨rfl, hb1⟩
  go_wp2_with fail
  go_ret
  exact ⟨rfl, (by repeat' (first | (with_reducible exact Below.refl _ _) | (with_reducible refine Below.drew ?_) | (with_reducible refine bo_drewN _ ?_) | (with_reducible refine bo_alloc ?_ _) | (refine bchain ?_ (by with_reducible assumption)) | (with_reducible refine Below.setCell ?_ ?_ _) | go_size))⟩
end Go.Proofs.YtfmeinkhdgbgjaaGreat
