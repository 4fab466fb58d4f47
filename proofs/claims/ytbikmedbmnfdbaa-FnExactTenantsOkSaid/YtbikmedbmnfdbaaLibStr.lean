/- The library's strings.CutPrefix and strings.HasSuffix at this program: where the shelf's contracts find their bodies. -/
import Derived.Shelf.Lays
import Derived.Test.YtbikmedbmnfdbaaBase
import Derived.Handy
namespace Go.Proofs.Ytbikmedbmnfdbaa
open Go.Shelf Go.RowKit
def cutpRen : Go.Shelf.Ren := ⟨fun | 103 => 43 | 206 => 48 | 210 => 46 | n => n, fun | 3 => 3 | 4 => 4 | 9 => 9 | 24 => 64 | n => n, fun  | n => n⟩
theorem cutpLays : Go.Proofs.Lays.n103 Try.prog cutpRen := {
  mixed := by kernel_rfl
  f103 := Try.func43.trans (congrArg some (by kernel_rfl))
  f206 := Try.func48.trans (congrArg some (by kernel_rfl))
  f210 := Try.func46.trans (congrArg some (by kernel_rfl))
  t3 := Try.underlying3
  a3 := Try.isAgg3
  z3 := Try.sizeOf3
  v3 := Try.zeroValue3
  t4 := Try.underlying4
  a4 := Try.isAgg4
  z4 := Try.sizeOf4
  v4 := Try.zeroValue4
  t9 := Try.underlying9
  a9 := Try.isAgg9
  z9 := Try.sizeOf9
  v9 := Try.zeroValue9
  t24 := Try.underlying64
  a24 := Try.isAgg64
  z24 := Try.sizeOf64
  v24 := Try.zeroValue64
}
def hsufRen : Go.Shelf.Ren := ⟨fun | 100 => 44 | 207 => 47 | n => n, fun | 3 => 3 | 4 => 4 | 9 => 9 | n => n, fun  | n => n⟩
theorem hsufLays : Go.Proofs.Lays.n100 Try.prog hsufRen := {
  mixed := by kernel_rfl
  f100 := Try.func44.trans (congrArg some (by kernel_rfl))
  f207 := Try.func47.trans (congrArg some (by kernel_rfl))
  t3 := Try.underlying3
  a3 := Try.isAgg3
  z3 := Try.sizeOf3
  v3 := Try.zeroValue3
  t4 := Try.underlying4
  a4 := Try.isAgg4
  z4 := Try.sizeOf4
  v4 := Try.zeroValue4
  t9 := Try.underlying9
  a9 := Try.isAgg9
  z9 := Try.sizeOf9
  v9 := Try.zeroValue9
}
end Go.Proofs.Ytbikmedbmnfdbaa
