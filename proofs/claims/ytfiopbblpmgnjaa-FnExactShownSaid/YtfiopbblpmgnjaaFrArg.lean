/- A Frame that came in: copied, counted, read off the arguments. -/
import Derived.Test.YtfiopbblpmgnjaaFrameMath
import Derived.Test.YtfiopbblpmgnjaaLater
import Derived.OpenShut
import Derived.ChangeOld

namespace Go.Proofs.Ytfiopbblpmgnjaa
open Go.RowKit
set_option maxRecDepth 100000
set_option linter.unusedSimpArgs false
set_option linter.unusedVariables false
theorem toFrame1 (k fl st : Int) (b : ByteArray) (w : World) : Calls Try.prog 8 #[.agg #[.int .i64 k, .int .i64 fl, .int .i64 st, .string b]] w fun x w' => x = .returned (.agg #[.int .i64 k, .int .i64 fl, .int .i64 st, .string b]) ∧ Below w.heap.size w w' := by
  go_enter Try.func8, Try.ntmps8
  go_wp2
  go_returns
  exact ⟨rfl, (by repeat' (first | (with_reducible exact Below.refl _ _) | (with_reducible refine Below.drew ?_) | (with_reducible refine bo_drewN _ ?_) | (with_reducible refine bo_alloc ?_ _) | (refine bchain ?_ (by with_reducible assumption)) | (with_reducible refine Below.setCell ?_ ?_ _) | go_size))⟩
theorem szFrame1 (k fl st : Int) (b : ByteArray) (left : Int) (w : World) (hf : b.size ≤ 9223372036854775807) (h0 : 0 ≤ left) (h1 : left ≤ 1048576) :
    Calls Try.prog 6 #[.agg #[.int .i64 k, .int .i64 fl, .int .i64 st, .string b], .int .i64 left] w fun x w' => x = .returned (.int .i64 (if left - b.size < 0 then -1 else left - b.size)) ∧ Below w.heap.size w w' := by
  by_cases hA : left - b.size < 0
  · rw [if_pos hA]
    go_enter Try.func6, Try.ntmps6
    go_wp2
    go_ret
    exact ⟨rfl, (by repeat' (first | (with_reducible exact Below.refl _ _) | (with_reducible refine Below.drew ?_) | (with_reducible refine bo_drewN _ ?_) | (with_reducible refine bo_alloc ?_ _) | (refine bchain ?_ (by with_reducible assumption)) | (with_reducible refine Below.setCell ?_ ?_ _) | go_size))⟩
  · rw [if_neg hA]
    go_enter Try.func6, Try.ntmps6
    go_wp2
    go_ret
    exact ⟨rfl, (by repeat' (first | (with_reducible exact Below.refl _ _) | (with_reducible refine Below.drew ?_) | (with_reducible refine bo_drewN _ ?_) | (with_reducible refine bo_alloc ?_ _) | (refine bchain ?_ (by with_reducible assumption)) | (with_reducible refine Below.setCell ?_ ?_ _) | go_size))⟩
open Go.ChangeShapes Go.WideShapes Go.ChangeAt Go.Joins in
theorem open_Frame {H : Type} {enc : TypeId × Value → H} {W : World} {base : Nat} {v : Value} {d : DataW H} {p : List MemPlace} (hv : Value.okWide Try.prog W .any base 23 v)
    (h : DataW.Trod enc Try.prog W 0 (fun _ => true) true 23 v d p) : ∃ (k fl st : Int) (b : ByteArray), b.size ≤ maxLen ∧ v = .agg #[.int .i64 k, .int .i64 fl, .int .i64 st, .string b] := by
  obtain ⟨c0, c1, c2, c3, y0, y1, y2, y3, m, rfl, _, _, hy0, hy1, hy2, hy3⟩ := open_agg4 Try.underlying23 (by kernel_rfl) (by kernel_rfl) hv h
  obtain ⟨a, e0, _, wa⟩ := DataW.trod_int Try.underlying2 hy0
  obtain ⟨a1, e1, _, wb⟩ := DataW.trod_int Try.underlying2 hy1
  obtain ⟨a2, e2, _, wc⟩ := DataW.trod_int Try.underlying2 hy2
  obtain ⟨s, e3, _, ws⟩ := DataW.trod_string Try.underlying9 hy3
  simp at e0 e1 e2 e3
  subst e0 e1 e2 e3
  exact ⟨_, _, _, _, ws, rfl⟩
end Go.Proofs.Ytfiopbblpmgnjaa
