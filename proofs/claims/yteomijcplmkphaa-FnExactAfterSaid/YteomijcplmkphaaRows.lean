/-
  No cell of these rows narrows 'for every input' (looked for: loops, veiled, ifaces, maps, wideKeys, modest, calm, conditions, laid).
  DERIVED. THE GIVEN ROWS OF THIS SEAT. 5 by the template 'for every input the law returns true; each argument reads behind the call as it read before'; 0 by the template 'total and deterministic' (their statements: YteomijcplmkphaaTotals.lean).
  GIVEN WITH THE SEED: the statements are not yours to turn. If you find one false, say at which input.
  Laid BY PROGRAM, IN A SANDBOX (cutbox-rows.mjs): the forced cells as the released guide's own fill.sh prints them over the translation 00adb7cba0eebc7e… (all of the seat's roots in one cut). By AI agents, Wed Nov 11 2026. No macro, syntax, notation, axiom, sorry.
-/
import Derived.Test.YteomijcplmkphaaChecked
import GoSem.Claim
import GoSem.ClaimJoined
import GoSem.ClaimMapViews
import Derived.JoinedTies
import Derived.KernelRfl
namespace Go.Proofs.Yteomijcplmkphaa
/- THE CELL 'sum', in the pinned program and in every row, IS THE sha256 OF THE DUMP (.gsa) THAT YteomijcplmkphaaProg.lean LOADS. Nothing in Lean hashes anything: it is a label: what it is worth is what the hold of that sum in a sandbox is worth. -/
noncomputable def Try.pinned : Pinned := { name := "yteomijcplmkphaa", sum := "00adb7cba0eebc7e4d5b34cae25818f2b5aef8ca1deafa1f3d8042dec7de9b48", checked := Try.checked }
namespace Rows
def none {H : Type} : Left H := { results := [], args := [] }

/-- 'laws.FnStates': WHATEVER THE INPUT: true; the input reads as it did. -/
def fnStatesSpec : ChangeSpec := { name := "fnStates", fn := fun _ => fun
  | [d] => { results := [.lit (.bool true)], args := [d] }
  | _ => none }
def fnStatesRow : OpenClaim := { program := "yteomijcplmkphaa", sum := "00adb7cba0eebc7e4d5b34cae25818f2b5aef8ca1deafa1f3d8042dec7de9b48", func := "loop.example/g00296/laws.FnStates", spec := "fnStates", plainKeys := false, apart := false }
def FnStatesSaid : Prop := fnStatesRow.holds Try.pinned (OpenSpec.ofChange fnStatesSpec)

/-- ITS FALSE NEIGHBOUR: 'it returns false'. Refute it at one input. -/
def fnStatesWrong : ChangeSpec := { name := "fnStates", fn := fun _ => fun
  | [d] => { results := [.lit (.bool false)], args := [d] }
  | _ => none }
def FnStatesWrongFalsely : Prop := fnStatesRow.holds Try.pinned (OpenSpec.ofChange fnStatesWrong)

/-- 'laws.FnExactNext': WHATEVER THE INPUT: true; the input reads as it did. -/
def fnExactNextSpec : ChangeSpec := { name := "fnExactNext", fn := fun _ => fun
  | [d1, d2] => { results := [.lit (.bool true)], args := [d1, d2] }
  | _ => none }
def fnExactNextRow : OpenClaim := { program := "yteomijcplmkphaa", sum := "00adb7cba0eebc7e4d5b34cae25818f2b5aef8ca1deafa1f3d8042dec7de9b48", func := "loop.example/g00296/laws.FnExactNext", spec := "fnExactNext", plainKeys := false, apart := false }
def FnExactNextSaid : Prop := fnExactNextRow.holds Try.pinned (OpenSpec.ofChange fnExactNextSpec)

/-- ITS FALSE NEIGHBOUR: 'it returns false'. Refute it at one input. -/
def fnExactNextWrong : ChangeSpec := { name := "fnExactNext", fn := fun _ => fun
  | [d1, d2] => { results := [.lit (.bool false)], args := [d1, d2] }
  | _ => none }
def FnExactNextWrongFalsely : Prop := fnExactNextRow.holds Try.pinned (OpenSpec.ofChange fnExactNextWrong)

/-- 'laws.FnExactMaySend': WHATEVER THE INPUT: true; the input reads as it did. -/
def fnExactMaySendSpec : ChangeSpec := { name := "fnExactMaySend", fn := fun _ => fun
  | [d] => { results := [.lit (.bool true)], args := [d] }
  | _ => none }
def fnExactMaySendRow : OpenClaim := { program := "yteomijcplmkphaa", sum := "00adb7cba0eebc7e4d5b34cae25818f2b5aef8ca1deafa1f3d8042dec7de9b48", func := "loop.example/g00296/laws.FnExactMaySend", spec := "fnExactMaySend", plainKeys := false, apart := false }
def FnExactMaySendSaid : Prop := fnExactMaySendRow.holds Try.pinned (OpenSpec.ofChange fnExactMaySendSpec)

/-- ITS FALSE NEIGHBOUR: 'it returns false'. Refute it at one input. -/
def fnExactMaySendWrong : ChangeSpec := { name := "fnExactMaySend", fn := fun _ => fun
  | [d] => { results := [.lit (.bool false)], args := [d] }
  | _ => none }
def FnExactMaySendWrongFalsely : Prop := fnExactMaySendRow.holds Try.pinned (OpenSpec.ofChange fnExactMaySendWrong)

/-- 'laws.FnExactMayGet': WHATEVER THE INPUT: true; the input reads as it did. -/
def fnExactMayGetSpec : ChangeSpec := { name := "fnExactMayGet", fn := fun _ => fun
  | [d] => { results := [.lit (.bool true)], args := [d] }
  | _ => none }
def fnExactMayGetRow : OpenClaim := { program := "yteomijcplmkphaa", sum := "00adb7cba0eebc7e4d5b34cae25818f2b5aef8ca1deafa1f3d8042dec7de9b48", func := "loop.example/g00296/laws.FnExactMayGet", spec := "fnExactMayGet", plainKeys := false, apart := false }
def FnExactMayGetSaid : Prop := fnExactMayGetRow.holds Try.pinned (OpenSpec.ofChange fnExactMayGetSpec)

/-- ITS FALSE NEIGHBOUR: 'it returns false'. Refute it at one input. -/
def fnExactMayGetWrong : ChangeSpec := { name := "fnExactMayGet", fn := fun _ => fun
  | [d] => { results := [.lit (.bool false)], args := [d] }
  | _ => none }
def FnExactMayGetWrongFalsely : Prop := fnExactMayGetRow.holds Try.pinned (OpenSpec.ofChange fnExactMayGetWrong)

/-- 'laws.FnExactAfter': WHATEVER THE INPUT: true; the input reads as it did. -/
def fnExactAfterSpec : ChangeSpec := { name := "fnExactAfter", fn := fun _ => fun
  | [d] => { results := [.lit (.bool true)], args := [d] }
  | _ => none }
def fnExactAfterRow : OpenClaim := { program := "yteomijcplmkphaa", sum := "00adb7cba0eebc7e4d5b34cae25818f2b5aef8ca1deafa1f3d8042dec7de9b48", func := "loop.example/g00296/laws.FnExactAfter", spec := "fnExactAfter", plainKeys := false, apart := false }
def FnExactAfterSaid : Prop := fnExactAfterRow.holds Try.pinned (OpenSpec.ofChange fnExactAfterSpec)

/-- ITS FALSE NEIGHBOUR: 'it returns false'. Refute it at one input. -/
def fnExactAfterWrong : ChangeSpec := { name := "fnExactAfter", fn := fun _ => fun
  | [d] => { results := [.lit (.bool false)], args := [d] }
  | _ => none }
def FnExactAfterWrongFalsely : Prop := fnExactAfterRow.holds Try.pinned (OpenSpec.ofChange fnExactAfterWrong)

/- THE SECOND FORM. 'bulk': how many values and letters a reading holds, each counted each time it is reached (what is shared counts as often as it is met; a slice's spare places count too). A statement '..UptoSaid' is the law's where the arguments, and the package variables that the reading takes, are together of bulk at most 1048576: NARROWER than '..Said'. Prove '..Said' where nothing that the law and all that it calls make is longer than what came in: it says more and counts as full. Else prove '..UptoSaid'. A law counts once. -/
mutual
def uptoBulk {H : Type} : DataW H → Nat
  | .lit (.string bytes) => bytes.length + 1
  | .lit _ => 1
  | .nil => 1
  | .ptr d => uptoBulk d + 1
  | .slice elems spare => uptoBulkAll elems + uptoBulkAll spare + 1
  | .agg parts => uptoBulkAll parts + 1
  | .iface _ d => uptoBulk d + 1
  | .map entries => uptoBulkEntries entries + 1
  | .held _ => 1
def uptoBulkAll {H : Type} : List (DataW H) → Nat
  | [] => 0
  | d :: r => uptoBulk d + uptoBulkAll r
def uptoBulkEntries {H : Type} : List (Lit × DataW H) → Nat
  | [] => 0
  | x :: r => uptoBulkEntry x + uptoBulkEntries r
def uptoBulkEntry {H : Type} : Lit × DataW H → Nat
  | (.string bytes, d) => bytes.length + uptoBulk d + 1
  | (_, d) => uptoBulk d + 1
 end
def uptoSmall : (H : Type) → List (DataW H) → Bool := fun _ ds => decide (uptoBulkAll ds ≤ 1048576)
def OpenSpec.upto (s : _root_.Go.ChangeSpec) : _root_.Go.OpenSpec := { _root_.Go.OpenSpec.ofChange s with cond := some uptoSmall }

/-- 'laws.FnStates', WHERE WHAT IT READS IS OF BULK AT MOST 1048576: true; the input reads as it did. -/
def fnStatesUptoRow : OpenClaim := { program := "yteomijcplmkphaa", sum := "00adb7cba0eebc7e4d5b34cae25818f2b5aef8ca1deafa1f3d8042dec7de9b48", func := "loop.example/g00296/laws.FnStates", spec := "fnStates", plainKeys := false, apart := false, narrowed := true }
def FnStatesUptoSaid : Prop := fnStatesUptoRow.holds Try.pinned (OpenSpec.upto fnStatesSpec)

/-- 'laws.FnExactNext', WHERE WHAT IT READS IS OF BULK AT MOST 1048576: true; the input reads as it did. -/
def fnExactNextUptoRow : OpenClaim := { program := "yteomijcplmkphaa", sum := "00adb7cba0eebc7e4d5b34cae25818f2b5aef8ca1deafa1f3d8042dec7de9b48", func := "loop.example/g00296/laws.FnExactNext", spec := "fnExactNext", plainKeys := false, apart := false, narrowed := true }
def FnExactNextUptoSaid : Prop := fnExactNextUptoRow.holds Try.pinned (OpenSpec.upto fnExactNextSpec)

/-- 'laws.FnExactMaySend', WHERE WHAT IT READS IS OF BULK AT MOST 1048576: true; the input reads as it did. -/
def fnExactMaySendUptoRow : OpenClaim := { program := "yteomijcplmkphaa", sum := "00adb7cba0eebc7e4d5b34cae25818f2b5aef8ca1deafa1f3d8042dec7de9b48", func := "loop.example/g00296/laws.FnExactMaySend", spec := "fnExactMaySend", plainKeys := false, apart := false, narrowed := true }
def FnExactMaySendUptoSaid : Prop := fnExactMaySendUptoRow.holds Try.pinned (OpenSpec.upto fnExactMaySendSpec)

/-- 'laws.FnExactMayGet', WHERE WHAT IT READS IS OF BULK AT MOST 1048576: true; the input reads as it did. -/
def fnExactMayGetUptoRow : OpenClaim := { program := "yteomijcplmkphaa", sum := "00adb7cba0eebc7e4d5b34cae25818f2b5aef8ca1deafa1f3d8042dec7de9b48", func := "loop.example/g00296/laws.FnExactMayGet", spec := "fnExactMayGet", plainKeys := false, apart := false, narrowed := true }
def FnExactMayGetUptoSaid : Prop := fnExactMayGetUptoRow.holds Try.pinned (OpenSpec.upto fnExactMayGetSpec)

/-- 'laws.FnExactAfter', WHERE WHAT IT READS IS OF BULK AT MOST 1048576: true; the input reads as it did. -/
def fnExactAfterUptoRow : OpenClaim := { program := "yteomijcplmkphaa", sum := "00adb7cba0eebc7e4d5b34cae25818f2b5aef8ca1deafa1f3d8042dec7de9b48", func := "loop.example/g00296/laws.FnExactAfter", spec := "fnExactAfter", plainKeys := false, apart := false, narrowed := true }
def FnExactAfterUptoSaid : Prop := fnExactAfterUptoRow.holds Try.pinned (OpenSpec.upto fnExactAfterSpec)

end Rows
end Go.Proofs.Yteomijcplmkphaa
