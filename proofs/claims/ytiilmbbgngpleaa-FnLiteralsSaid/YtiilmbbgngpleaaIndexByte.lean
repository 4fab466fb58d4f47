/- The library's strings.IndexByte at this program: the place of the first byte alike, or -1. Laid off the shelf's own contract. -/
import Derived.Shelf.Lays
import Derived.Shelf.Small.Strs
import Derived.Test.YtiilmbbgngpleaaBase
import Derived.Handy
namespace Go.Proofs.Ytiilmbbgngpleaa
open Go.Shelf Go.RowKit
def ixRen : Go.Shelf.Ren := ⟨fun | 137 => 38 | 217 => 49 | 266 => 51 | n => n, fun | 3 => 3 | 9 => 9 | 5 => 5 | n => n, fun | n => n⟩
theorem ixLays : Go.Proofs.Lays.n137 Try.prog ixRen := {
  mixed := by kernel_rfl
  f137 := Try.func38.trans (congrArg some (by kernel_rfl))
  f217 := Try.func49.trans (congrArg some (by kernel_rfl))
  f266 := Try.func51.trans (congrArg some (by kernel_rfl))
  t3 := Try.underlying3
  a3 := Try.isAgg3
  z3 := Try.sizeOf3
  v3 := Try.zeroValue3
  t9 := Try.underlying9
  a9 := Try.isAgg9
  z9 := Try.sizeOf9
  v9 := Try.zeroValue9
  t5 := Try.underlying5
  a5 := Try.isAgg5
  z5 := Try.sizeOf5
  v5 := Try.zeroValue5 }
theorem indexByte (s : ByteArray) (c : Int) (w : World) :
    Calls Try.prog 38 #[.string s, .int .u8 c] w fun e w' => e = .returned (.int .i64 (Lib.indexByte s.data.toList c.toNat.toUInt8)) ∧ w' = w := Any.strings_IndexByte ixLays s c w
end Go.Proofs.Ytiilmbbgngpleaa
