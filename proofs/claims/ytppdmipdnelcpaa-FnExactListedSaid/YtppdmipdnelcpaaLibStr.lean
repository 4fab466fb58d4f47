/- The library's strings.CutPrefix and strings.HasSuffix at this program: where the shelf's contracts find their bodies. -/
import Derived.Shelf.Lays
import Derived.Test.YtppdmipdnelcpaaBase
import Derived.Handy
namespace Go.Proofs.Ytppdmipdnelcpaa
open Go.Shelf Go.RowKit
def cutpRen : Go.Shelf.Ren := ⟨fun | 103 => 17 | 206 => 25 | 210 => 22 | n => n, fun | 3 => 3 | 4 => 4 | 9 => 9 | 24 => 37 | n => n, fun  | n => n⟩
theorem cutpLays : Go.Proofs.Lays.n103 Try.prog cutpRen := {
  mixed := by kernel_rfl
  f103 := Try.func17.trans (congrArg some (by kernel_rfl))
  f206 := Try.func25.trans (congrArg some (by kernel_rfl))
  f210 := Try.func22.trans (congrArg some (by kernel_rfl))
  t3 := Try.underlying3
  a3 := Try.isAgg3
  z3 := Try.sizeOf3
  v3 := Try.zeroValue3
  t4 := Try.underlying4
  a4 := Try.isAgg4
  z4 := Try.sizeOf4
  v4 := Try.zeroValue4
  t9 := Try.underlying9
  a9 := Try.isAgg9
  z9 := Try.sizeOf9
  v9 := Try.zeroValue9
  t24 := Try.underlying37
  a24 := Try.isAgg37
  z24 := Try.sizeOf37
  v24 := Try.zeroValue37
}
def hsufRen : Go.Shelf.Ren := ⟨fun | 100 => 18 | 207 => 23 | n => n, fun | 3 => 3 | 4 => 4 | 9 => 9 | n => n, fun  | n => n⟩
theorem hsufLays : Go.Proofs.Lays.n100 Try.prog hsufRen := {
  mixed := by kernel_rfl
  f100 := Try.func18.trans (congrArg some (by kernel_rfl))
  f207 := Try.func23.trans (congrArg some (by kernel_rfl))
  t3 := Try.underlying3
  a3 := Try.isAgg3
  z3 := Try.sizeOf3
  v3 := Try.zeroValue3
  t4 := Try.underlying4
  a4 := Try.isAgg4
  z4 := Try.sizeOf4
  v4 := Try.zeroValue4
  t9 := Try.underlying9
  a9 := Try.isAgg9
  z9 := Try.sizeOf9
  v9 := Try.zeroValue9
}
end Go.Proofs.Ytppdmipdnelcpaa
