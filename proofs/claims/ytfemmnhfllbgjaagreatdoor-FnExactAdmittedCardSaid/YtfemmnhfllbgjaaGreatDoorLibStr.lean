/- The library's strings.CutPrefix and strings.HasSuffix at this program: where the shelf's contracts find their bodies. -/
import Derived.Shelf.Lays
import Derived.Test.YtfemmnhfllbgjaaGreatDoorBase
import Derived.Handy
namespace Go.Proofs.YtfemmnhfllbgjaaGreatDoor
open Go.Shelf Go.RowKit
def cutpRen : Go.Shelf.Ren := ⟨fun | 103 => 48 | 206 => 79 | 210 => 67 | n => n, fun | 3 => 3 | 4 => 4 | 9 => 9 | 24 => 69 | n => n, fun  | n => n⟩
theorem cutpLays : Go.Proofs.Lays.n103 Tryz.prog cutpRen := {
  mixed := by kernel_rfl
  f103 := Tryz.func48.trans (congrArg some (by kernel_rfl))
  f206 := Tryz.func79.trans (congrArg some (by kernel_rfl))
  f210 := Tryz.func67.trans (congrArg some (by kernel_rfl))
  t3 := Tryz.underlying3
  a3 := Tryz.isAgg3
  z3 := Tryz.sizeOf3
  v3 := Tryz.zeroValue3
  t4 := Tryz.underlying4
  a4 := Tryz.isAgg4
  z4 := Tryz.sizeOf4
  v4 := Tryz.zeroValue4
  t9 := Tryz.underlying9
  a9 := Tryz.isAgg9
  z9 := Tryz.sizeOf9
  v9 := Tryz.zeroValue9
  t24 := Tryz.underlying69
  a24 := Tryz.isAgg69
  z24 := Tryz.sizeOf69
  v24 := Tryz.zeroValue69
}
def hsufRen : Go.Shelf.Ren := ⟨fun | 100 => 49 | 207 => 68 | n => n, fun | 3 => 3 | 4 => 4 | 9 => 9 | n => n, fun  | n => n⟩
theorem hsufLays : Go.Proofs.Lays.n100 Tryz.prog hsufRen := {
  mixed := by kernel_rfl
  f100 := Tryz.func49.trans (congrArg some (by kernel_rfl))
  f207 := Tryz.func68.trans (congrArg some (by kernel_rfl))
  t3 := Tryz.underlying3
  a3 := Tryz.isAgg3
  z3 := Tryz.sizeOf3
  v3 := Tryz.zeroValue3
  t4 := Tryz.underlying4
  a4 := Tryz.isAgg4
  z4 := Tryz.sizeOf4
  v4 := Tryz.zeroValue4
  t9 := Tryz.underlying9
  a9 := Tryz.isAgg9
  z9 := Tryz.sizeOf9
  v9 := Tryz.zeroValue9
}
end Go.Proofs.YtfemmnhfllbgjaaGreatDoor
