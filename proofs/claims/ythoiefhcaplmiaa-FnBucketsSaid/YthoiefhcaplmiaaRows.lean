/-
  No cell of these rows narrows 'for every input' (looked for: loops, veiled, ifaces, maps, wideKeys, modest, calm, conditions, laid).
  DERIVED. THE GIVEN ROWS OF THIS SEAT. 6 by the template 'for every input the law returns true; each argument reads behind the call as it read before'; 0 by the template 'total and deterministic' (their statements: YthoiefhcaplmiaaTotals.lean).
  GIVEN WITH THE SEED: the statements are not yours to turn. If you find one false, say at which input.
  Laid BY PROGRAM, IN A SANDBOX (cutbox-rows.mjs): the forced cells as the released guide's own fill.sh prints them over the translation 8928ea6e3db8f29d… (all of the seat's roots in one cut). By AI agents, Wed Nov 11 2026. No macro, syntax, notation, axiom, sorry.
-/
import Derived.Test.YthoiefhcaplmiaaChecked
import GoSem.Claim
import GoSem.ClaimJoined
import GoSem.ClaimMapViews
import Derived.JoinedTies
import Derived.KernelRfl
namespace Go.Proofs.Ythoiefhcaplmiaa
/- THE CELL 'sum', in the pinned program and in every row, IS THE sha256 OF THE DUMP (.gsa) THAT YthoiefhcaplmiaaProg.lean LOADS. Nothing in Lean hashes anything: it is a label: what it is worth is what the hold of that sum in a sandbox is worth. -/
noncomputable def Try.pinned : Pinned := { name := "ythoiefhcaplmiaa", sum := "8928ea6e3db8f29d6e31caafcec71982a45606be8a752a96c07401f33eb85e8c", checked := Try.checked }
namespace Rows
def none {H : Type} : Left H := { results := [], args := [] }

/-- 'laws.FnBuckets': WHATEVER THE INPUT: true; the input reads as it did. -/
def fnBucketsSpec : ChangeSpec := { name := "fnBuckets", fn := fun _ => fun
  | [d] => { results := [.lit (.bool true)], args := [d] }
  | _ => none }
def fnBucketsRow : OpenClaim := { program := "ythoiefhcaplmiaa", sum := "8928ea6e3db8f29d6e31caafcec71982a45606be8a752a96c07401f33eb85e8c", func := "loop.example/g00296/laws.FnBuckets", spec := "fnBuckets", unfollowed := true, recurses := true, apart := false }
def FnBucketsSaid : Prop := fnBucketsRow.holds Try.pinned (OpenSpec.ofChange fnBucketsSpec)

/-- ITS FALSE NEIGHBOUR: 'it returns false'. Refute it at one input. -/
def fnBucketsWrong : ChangeSpec := { name := "fnBuckets", fn := fun _ => fun
  | [d] => { results := [.lit (.bool false)], args := [d] }
  | _ => none }
def FnBucketsWrongFalsely : Prop := fnBucketsRow.holds Try.pinned (OpenSpec.ofChange fnBucketsWrong)

/-- 'laws.FnPours': WHATEVER THE INPUT: true; the input reads as it did. -/
def fnPoursSpec : ChangeSpec := { name := "fnPours", fn := fun _ => fun
  | [d] => { results := [.lit (.bool true)], args := [d] }
  | _ => none }
def fnPoursRow : OpenClaim := { program := "ythoiefhcaplmiaa", sum := "8928ea6e3db8f29d6e31caafcec71982a45606be8a752a96c07401f33eb85e8c", func := "loop.example/g00296/laws.FnPours", spec := "fnPours", unfollowed := true, recurses := true, apart := false }
def FnPoursSaid : Prop := fnPoursRow.holds Try.pinned (OpenSpec.ofChange fnPoursSpec)

/-- ITS FALSE NEIGHBOUR: 'it returns false'. Refute it at one input. -/
def fnPoursWrong : ChangeSpec := { name := "fnPours", fn := fun _ => fun
  | [d] => { results := [.lit (.bool false)], args := [d] }
  | _ => none }
def FnPoursWrongFalsely : Prop := fnPoursRow.holds Try.pinned (OpenSpec.ofChange fnPoursWrong)

/-- 'laws.FnExactBucketOk': WHATEVER THE INPUT: true; the input reads as it did. -/
def fnExactBucketOkSpec : ChangeSpec := { name := "fnExactBucketOk", fn := fun _ => fun
  | [d] => { results := [.lit (.bool true)], args := [d] }
  | _ => none }
def fnExactBucketOkRow : OpenClaim := { program := "ythoiefhcaplmiaa", sum := "8928ea6e3db8f29d6e31caafcec71982a45606be8a752a96c07401f33eb85e8c", func := "loop.example/g00296/laws.FnExactBucketOk", spec := "fnExactBucketOk", apart := false }
def FnExactBucketOkSaid : Prop := fnExactBucketOkRow.holds Try.pinned (OpenSpec.ofChange fnExactBucketOkSpec)

/-- ITS FALSE NEIGHBOUR: 'it returns false'. Refute it at one input. -/
def fnExactBucketOkWrong : ChangeSpec := { name := "fnExactBucketOk", fn := fun _ => fun
  | [d] => { results := [.lit (.bool false)], args := [d] }
  | _ => none }
def FnExactBucketOkWrongFalsely : Prop := fnExactBucketOkRow.holds Try.pinned (OpenSpec.ofChange fnExactBucketOkWrong)

/-- 'laws.FnExactFilled': WHATEVER THE INPUT: true; the input reads as it did. -/
def fnExactFilledSpec : ChangeSpec := { name := "fnExactFilled", fn := fun _ => fun
  | [d1, d2] => { results := [.lit (.bool true)], args := [d1, d2] }
  | _ => none }
def fnExactFilledRow : OpenClaim := { program := "ythoiefhcaplmiaa", sum := "8928ea6e3db8f29d6e31caafcec71982a45606be8a752a96c07401f33eb85e8c", func := "loop.example/g00296/laws.FnExactFilled", spec := "fnExactFilled", unfollowed := true, recurses := true, apart := false }
def FnExactFilledSaid : Prop := fnExactFilledRow.holds Try.pinned (OpenSpec.ofChange fnExactFilledSpec)

/-- ITS FALSE NEIGHBOUR: 'it returns false'. Refute it at one input. -/
def fnExactFilledWrong : ChangeSpec := { name := "fnExactFilled", fn := fun _ => fun
  | [d1, d2] => { results := [.lit (.bool false)], args := [d1, d2] }
  | _ => none }
def FnExactFilledWrongFalsely : Prop := fnExactFilledRow.holds Try.pinned (OpenSpec.ofChange fnExactFilledWrong)

/-- 'laws.FnExactPoured': WHATEVER THE INPUT: true; the input reads as it did. -/
def fnExactPouredSpec : ChangeSpec := { name := "fnExactPoured", fn := fun _ => fun
  | [d1, d2, d3] => { results := [.lit (.bool true)], args := [d1, d2, d3] }
  | _ => none }
def fnExactPouredRow : OpenClaim := { program := "ythoiefhcaplmiaa", sum := "8928ea6e3db8f29d6e31caafcec71982a45606be8a752a96c07401f33eb85e8c", func := "loop.example/g00296/laws.FnExactPoured", spec := "fnExactPoured", unfollowed := true, recurses := true, apart := false }
def FnExactPouredSaid : Prop := fnExactPouredRow.holds Try.pinned (OpenSpec.ofChange fnExactPouredSpec)

/-- ITS FALSE NEIGHBOUR: 'it returns false'. Refute it at one input. -/
def fnExactPouredWrong : ChangeSpec := { name := "fnExactPoured", fn := fun _ => fun
  | [d1, d2, d3] => { results := [.lit (.bool false)], args := [d1, d2, d3] }
  | _ => none }
def FnExactPouredWrongFalsely : Prop := fnExactPouredRow.holds Try.pinned (OpenSpec.ofChange fnExactPouredWrong)

/-- 'laws.FnExactWhenFull': WHATEVER THE INPUT: true; the input reads as it did. -/
def fnExactWhenFullSpec : ChangeSpec := { name := "fnExactWhenFull", fn := fun _ => fun
  | [d1, d2] => { results := [.lit (.bool true)], args := [d1, d2] }
  | _ => none }
def fnExactWhenFullRow : OpenClaim := { program := "ythoiefhcaplmiaa", sum := "8928ea6e3db8f29d6e31caafcec71982a45606be8a752a96c07401f33eb85e8c", func := "loop.example/g00296/laws.FnExactWhenFull", spec := "fnExactWhenFull", apart := false }
def FnExactWhenFullSaid : Prop := fnExactWhenFullRow.holds Try.pinned (OpenSpec.ofChange fnExactWhenFullSpec)

/-- ITS FALSE NEIGHBOUR: 'it returns false'. Refute it at one input. -/
def fnExactWhenFullWrong : ChangeSpec := { name := "fnExactWhenFull", fn := fun _ => fun
  | [d1, d2] => { results := [.lit (.bool false)], args := [d1, d2] }
  | _ => none }
def FnExactWhenFullWrongFalsely : Prop := fnExactWhenFullRow.holds Try.pinned (OpenSpec.ofChange fnExactWhenFullWrong)

/- THE SECOND FORM. 'bulk': how many values and letters a reading holds, each counted each time it is reached (what is shared counts as often as it is met; a slice's spare places count too). A statement '..UptoSaid' is the law's where the arguments, and the package variables that the reading takes, are together of bulk at most 1048576: NARROWER than '..Said'. Prove '..Said' where nothing that the law and all that it calls make is longer than what came in: it says more and counts as full. Else prove '..UptoSaid'. A law counts once. -/
mutual
def uptoBulk {H : Type} : DataW H → Nat
  | .lit (.string bytes) => bytes.length + 1
  | .lit _ => 1
  | .nil => 1
  | .ptr d => uptoBulk d + 1
  | .slice elems spare => uptoBulkAll elems + uptoBulkAll spare + 1
  | .agg parts => uptoBulkAll parts + 1
  | .iface _ d => uptoBulk d + 1
  | .map entries => uptoBulkEntries entries + 1
  | .held _ => 1
def uptoBulkAll {H : Type} : List (DataW H) → Nat
  | [] => 0
  | d :: r => uptoBulk d + uptoBulkAll r
def uptoBulkEntries {H : Type} : List (Lit × DataW H) → Nat
  | [] => 0
  | x :: r => uptoBulkEntry x + uptoBulkEntries r
def uptoBulkEntry {H : Type} : Lit × DataW H → Nat
  | (.string bytes, d) => bytes.length + uptoBulk d + 1
  | (_, d) => uptoBulk d + 1
 end
def uptoSmall : (H : Type) → List (DataW H) → Bool := fun _ ds => decide (uptoBulkAll ds ≤ 1048576)
def OpenSpec.upto (s : _root_.Go.ChangeSpec) : _root_.Go.OpenSpec := { _root_.Go.OpenSpec.ofChange s with cond := some uptoSmall }

/-- 'laws.FnBuckets', WHERE WHAT IT READS IS OF BULK AT MOST 1048576: true; the input reads as it did. -/
def fnBucketsUptoRow : OpenClaim := { program := "ythoiefhcaplmiaa", sum := "8928ea6e3db8f29d6e31caafcec71982a45606be8a752a96c07401f33eb85e8c", func := "loop.example/g00296/laws.FnBuckets", spec := "fnBuckets", unfollowed := true, recurses := true, apart := false, narrowed := true }
def FnBucketsUptoSaid : Prop := fnBucketsUptoRow.holds Try.pinned (OpenSpec.upto fnBucketsSpec)

/-- 'laws.FnPours', WHERE WHAT IT READS IS OF BULK AT MOST 1048576: true; the input reads as it did. -/
def fnPoursUptoRow : OpenClaim := { program := "ythoiefhcaplmiaa", sum := "8928ea6e3db8f29d6e31caafcec71982a45606be8a752a96c07401f33eb85e8c", func := "loop.example/g00296/laws.FnPours", spec := "fnPours", unfollowed := true, recurses := true, apart := false, narrowed := true }
def FnPoursUptoSaid : Prop := fnPoursUptoRow.holds Try.pinned (OpenSpec.upto fnPoursSpec)

/-- 'laws.FnExactBucketOk', WHERE WHAT IT READS IS OF BULK AT MOST 1048576: true; the input reads as it did. -/
def fnExactBucketOkUptoRow : OpenClaim := { program := "ythoiefhcaplmiaa", sum := "8928ea6e3db8f29d6e31caafcec71982a45606be8a752a96c07401f33eb85e8c", func := "loop.example/g00296/laws.FnExactBucketOk", spec := "fnExactBucketOk", apart := false, narrowed := true }
def FnExactBucketOkUptoSaid : Prop := fnExactBucketOkUptoRow.holds Try.pinned (OpenSpec.upto fnExactBucketOkSpec)

/-- 'laws.FnExactFilled', WHERE WHAT IT READS IS OF BULK AT MOST 1048576: true; the input reads as it did. -/
def fnExactFilledUptoRow : OpenClaim := { program := "ythoiefhcaplmiaa", sum := "8928ea6e3db8f29d6e31caafcec71982a45606be8a752a96c07401f33eb85e8c", func := "loop.example/g00296/laws.FnExactFilled", spec := "fnExactFilled", unfollowed := true, recurses := true, apart := false, narrowed := true }
def FnExactFilledUptoSaid : Prop := fnExactFilledUptoRow.holds Try.pinned (OpenSpec.upto fnExactFilledSpec)

/-- 'laws.FnExactPoured', WHERE WHAT IT READS IS OF BULK AT MOST 1048576: true; the input reads as it did. -/
def fnExactPouredUptoRow : OpenClaim := { program := "ythoiefhcaplmiaa", sum := "8928ea6e3db8f29d6e31caafcec71982a45606be8a752a96c07401f33eb85e8c", func := "loop.example/g00296/laws.FnExactPoured", spec := "fnExactPoured", unfollowed := true, recurses := true, apart := false, narrowed := true }
def FnExactPouredUptoSaid : Prop := fnExactPouredUptoRow.holds Try.pinned (OpenSpec.upto fnExactPouredSpec)

/-- 'laws.FnExactWhenFull', WHERE WHAT IT READS IS OF BULK AT MOST 1048576: true; the input reads as it did. -/
def fnExactWhenFullUptoRow : OpenClaim := { program := "ythoiefhcaplmiaa", sum := "8928ea6e3db8f29d6e31caafcec71982a45606be8a752a96c07401f33eb85e8c", func := "loop.example/g00296/laws.FnExactWhenFull", spec := "fnExactWhenFull", apart := false, narrowed := true }
def FnExactWhenFullUptoSaid : Prop := fnExactWhenFullUptoRow.holds Try.pinned (OpenSpec.upto fnExactWhenFullSpec)

end Rows
end Go.Proofs.Ythoiefhcaplmiaa
