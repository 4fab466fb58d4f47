/- Several small texts of one level, one behind the other. -/
import Derived.Test.YtkhclhnejnpkeaaGreatQWtRing5
import Derived.Test.YtkhclhnejnpkeaaGreatQWtG11
import Derived.Test.YtkhclhnejnpkeaaGreatQWtG9
/- The program's word on a Table. -/
namespace Go.Proofs.YtkhclhnejnpkeaaGreat
open Go.RowKit
set_option maxRecDepth 100000
set_option linter.unusedSimpArgs false
set_option linter.unusedVariables false
set_option maxRecDepth 100000 in
set_option maxHeartbeats 1000000 in
theorem implTOk (L : List Fd) (room : Int) (v : Value) (w : World) (hr0 : Reads w v L.length 2 (fv L)) (hf : ∀ f ∈ L, f.fine) :
    Calls Tryz.prog 112 #[.agg #[.int .i64 room, v]] w fun x w' => x = .returned (.bool (okT room L)) ∧ Below w.heap.size w w' := by
  have HR := hide hr0
  obtain ⟨hl, ad, cap, rfl, h1, h2, h3⟩ := hr0
  clear h3
  go_enter Tryz.func112, Tryz.ntmps112
  go_wp2_with fail
  refine (ringOf1 L room _ _ ?c1 hf).mono ?_
  case c1 => exact HR.out.new (by repeat' (first | (with_reducible exact Below.refl _ _) | (with_reducible refine Below.drew ?_) | (with_reducible refine bo_drewN _ ?_) | (with_reducible refine bo_alloc ?_ _) | (refine bchain ?_ (by with_reducible assumption)) | (with_reducible refine Below.setCell ?_ ?_ _) | go_size))
  rintro x w1 ⟨cs, hcl, hone, rfl, _, hb1⟩
  have HONE := hide hone
  have HB : Below w.heap.size w w1 := (by repeat' (first | (with_reducible exact Below.refl _ _) | (with_reducible refine Below.drew ?_) | (with_reducible refine bo_drewN _ ?_) | (with_reducible refine bo_alloc ?_ _) | (refine bchain ?_ (by with_reducible assumption)) | (with_reducible refine Below.setCell ?_ ?_ _) | go_size))
  clear hone hb1
  go_wp2_with (first | (refine wpList_alloc_row (by rfl) 193 (by rfl) ringZ ringZ_zero.1 ?_) | (refine wpList_store_row (by rfl) 193 _ _ (by rfl) (w1.heap.size) (cs) (by rfl) (by rfl) 193 (ringZ) (rowIs_new w1 193 ringZ) (by rw [hcl]; exact ringZ_zero.2) (Eq.trans ringZ_len (Eq.symm hcl)) (HONE.out) ?_))
  go_ret
  exact ⟨rfl, below_setRow (bo_alloc HB _) HB.size _⟩
end Go.Proofs.YtkhclhnejnpkeaaGreat
/- The program's registry: RegistryOk, Live, Opened, Happened, Swept. -/
namespace Go.Proofs.YtkhclhnejnpkeaaGreat
open Go.RowKit
set_option maxRecDepth 100000
set_option linter.unusedSimpArgs false
set_option linter.unusedVariables false
theorem implRegistryOk (d : RegistryD) (v : Value) (w : World) (hr : RdR entryS w v d.es) : Calls Tryz.prog 111 #[.agg #[.int .i64 d.lim, .int .i64 d.top, v]] w fun x w' => x = .returned (.bool (okRg d)) ∧ Below w.heap.size w w' := by
  obtain ⟨ad, cap, rfl, h1, h2⟩ := hr.form
  have HR := hide hr
  clear hr
  go_enter Tryz.func111, Tryz.ntmps111
  go_wp2_with fail
  refine (implRightR d _ _ (HR.out.new (by repeat' (first | (with_reducible exact Below.refl _ _) | (with_reducible refine Below.drew ?_) | (with_reducible refine bo_drewN _ ?_) | (with_reducible refine bo_alloc ?_ _) | (refine bchain ?_ (by with_reducible assumption)) | (with_reducible refine Below.setCell ?_ ?_ _) | go_size)))).mono ?_; rintro z w1 ⟨rfl, hb1⟩
  go_wp2_with fail
  go_ret
  exact ⟨rfl, (by repeat' (first | (with_reducible exact Below.refl _ _) | (with_reducible refine Below.drew ?_) | (with_reducible refine bo_drewN _ ?_) | (with_reducible refine bo_alloc ?_ _) | (refine bchain ?_ (by with_reducible assumption)) | (with_reducible refine Below.setCell ?_ ?_ _) | go_size))⟩
end Go.Proofs.YtkhclhnejnpkeaaGreat
