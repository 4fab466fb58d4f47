/-
  No cell of these rows narrows 'for every input' (looked for: loops, veiled, ifaces, maps, wideKeys, modest, calm, conditions, laid).
  DERIVED. THE GIVEN ROWS OF THIS SEAT. 6 by the template 'for every input the law returns true; each argument reads behind the call as it read before'; 0 by the template 'total and deterministic' (their statements: YtdplpkobpoiioaaTotals.lean).
  GIVEN WITH THE SEED: the statements are not yours to turn. If you find one false, say at which input.
  Laid BY PROGRAM, IN A SANDBOX (cutbox-rows.mjs): the forced cells as the released guide's own fill.sh prints them over the translation 9d879f73edaeb187… (all of the seat's roots in one cut). By AI agents, Wed Nov 11 2026. No macro, syntax, notation, axiom, sorry.
-/
import Derived.Test.YtdplpkobpoiioaaChecked
import GoSem.Claim
import GoSem.ClaimJoined
import GoSem.ClaimMapViews
import Derived.JoinedTies
import Derived.KernelRfl
namespace Go.Proofs.Ytdplpkobpoiioaa
/- THE CELL 'sum', in the pinned program and in every row, IS THE sha256 OF THE DUMP (.gsa) THAT YtdplpkobpoiioaaProg.lean LOADS. Nothing in Lean hashes anything: it is a label: what it is worth is what the hold of that sum in a sandbox is worth. -/
noncomputable def Try.pinned : Pinned := { name := "ytdplpkobpoiioaa", sum := "9d879f73edaeb1876dce55c9f162e37bcfc941936f850a1708beabb969e655f2", checked := Try.checked }
namespace Rows
def none {H : Type} : Left H := { results := [], args := [] }

/-- 'laws.FnCells': WHATEVER THE INPUT: true; the input reads as it did. -/
def fnCellsSpec : ChangeSpec := { name := "fnCells", fn := fun _ => fun
  | [d] => { results := [.lit (.bool true)], args := [d] }
  | _ => none }
def fnCellsRow : OpenClaim := { program := "ytdplpkobpoiioaa", sum := "9d879f73edaeb1876dce55c9f162e37bcfc941936f850a1708beabb969e655f2", func := "loop.example/g00296/laws.FnCells", spec := "fnCells", apart := false }
def FnCellsSaid : Prop := fnCellsRow.holds Try.pinned (OpenSpec.ofChange fnCellsSpec)

/-- ITS FALSE NEIGHBOUR: 'it returns false'. Refute it at one input. -/
def fnCellsWrong : ChangeSpec := { name := "fnCells", fn := fun _ => fun
  | [d] => { results := [.lit (.bool false)], args := [d] }
  | _ => none }
def FnCellsWrongFalsely : Prop := fnCellsRow.holds Try.pinned (OpenSpec.ofChange fnCellsWrong)

/-- 'laws.FnExactMemoryOk': WHATEVER THE INPUT: true; the input reads as it did. -/
def fnExactMemoryOkSpec : ChangeSpec := { name := "fnExactMemoryOk", fn := fun _ => fun
  | [d] => { results := [.lit (.bool true)], args := [d] }
  | _ => none }
def fnExactMemoryOkRow : OpenClaim := { program := "ytdplpkobpoiioaa", sum := "9d879f73edaeb1876dce55c9f162e37bcfc941936f850a1708beabb969e655f2", func := "loop.example/g00296/laws.FnExactMemoryOk", spec := "fnExactMemoryOk", apart := false }
def FnExactMemoryOkSaid : Prop := fnExactMemoryOkRow.holds Try.pinned (OpenSpec.ofChange fnExactMemoryOkSpec)

/-- ITS FALSE NEIGHBOUR: 'it returns false'. Refute it at one input. -/
def fnExactMemoryOkWrong : ChangeSpec := { name := "fnExactMemoryOk", fn := fun _ => fun
  | [d] => { results := [.lit (.bool false)], args := [d] }
  | _ => none }
def FnExactMemoryOkWrongFalsely : Prop := fnExactMemoryOkRow.holds Try.pinned (OpenSpec.ofChange fnExactMemoryOkWrong)

/-- 'laws.FnExactPicked': WHATEVER THE INPUT: true; the input reads as it did. -/
def fnExactPickedSpec : ChangeSpec := { name := "fnExactPicked", fn := fun _ => fun
  | [d1, d2] => { results := [.lit (.bool true)], args := [d1, d2] }
  | _ => none }
def fnExactPickedRow : OpenClaim := { program := "ytdplpkobpoiioaa", sum := "9d879f73edaeb1876dce55c9f162e37bcfc941936f850a1708beabb969e655f2", func := "loop.example/g00296/laws.FnExactPicked", spec := "fnExactPicked", apart := false }
def FnExactPickedSaid : Prop := fnExactPickedRow.holds Try.pinned (OpenSpec.ofChange fnExactPickedSpec)

/-- ITS FALSE NEIGHBOUR: 'it returns false'. Refute it at one input. -/
def fnExactPickedWrong : ChangeSpec := { name := "fnExactPicked", fn := fun _ => fun
  | [d1, d2] => { results := [.lit (.bool false)], args := [d1, d2] }
  | _ => none }
def FnExactPickedWrongFalsely : Prop := fnExactPickedRow.holds Try.pinned (OpenSpec.ofChange fnExactPickedWrong)

/-- 'laws.FnExactPlayed': WHATEVER THE INPUT: true; the input reads as it did. -/
def fnExactPlayedSpec : ChangeSpec := { name := "fnExactPlayed", fn := fun _ => fun
  | [d1, d2] => { results := [.lit (.bool true)], args := [d1, d2] }
  | _ => none }
def fnExactPlayedRow : OpenClaim := { program := "ytdplpkobpoiioaa", sum := "9d879f73edaeb1876dce55c9f162e37bcfc941936f850a1708beabb969e655f2", func := "loop.example/g00296/laws.FnExactPlayed", spec := "fnExactPlayed", apart := false }
def FnExactPlayedSaid : Prop := fnExactPlayedRow.holds Try.pinned (OpenSpec.ofChange fnExactPlayedSpec)

/-- ITS FALSE NEIGHBOUR: 'it returns false'. Refute it at one input. -/
def fnExactPlayedWrong : ChangeSpec := { name := "fnExactPlayed", fn := fun _ => fun
  | [d1, d2] => { results := [.lit (.bool false)], args := [d1, d2] }
  | _ => none }
def FnExactPlayedWrongFalsely : Prop := fnExactPlayedRow.holds Try.pinned (OpenSpec.ofChange fnExactPlayedWrong)

/-- 'laws.FnExactThrough': WHATEVER THE INPUT: true; the input reads as it did. -/
def fnExactThroughSpec : ChangeSpec := { name := "fnExactThrough", fn := fun _ => fun
  | [d] => { results := [.lit (.bool true)], args := [d] }
  | _ => none }
def fnExactThroughRow : OpenClaim := { program := "ytdplpkobpoiioaa", sum := "9d879f73edaeb1876dce55c9f162e37bcfc941936f850a1708beabb969e655f2", func := "loop.example/g00296/laws.FnExactThrough", spec := "fnExactThrough", apart := false }
def FnExactThroughSaid : Prop := fnExactThroughRow.holds Try.pinned (OpenSpec.ofChange fnExactThroughSpec)

/-- ITS FALSE NEIGHBOUR: 'it returns false'. Refute it at one input. -/
def fnExactThroughWrong : ChangeSpec := { name := "fnExactThrough", fn := fun _ => fun
  | [d] => { results := [.lit (.bool false)], args := [d] }
  | _ => none }
def FnExactThroughWrongFalsely : Prop := fnExactThroughRow.holds Try.pinned (OpenSpec.ofChange fnExactThroughWrong)

/-- 'laws.FnExactWins': WHATEVER THE INPUT: true; the input reads as it did. -/
def fnExactWinsSpec : ChangeSpec := { name := "fnExactWins", fn := fun _ => fun
  | [d] => { results := [.lit (.bool true)], args := [d] }
  | _ => none }
def fnExactWinsRow : OpenClaim := { program := "ytdplpkobpoiioaa", sum := "9d879f73edaeb1876dce55c9f162e37bcfc941936f850a1708beabb969e655f2", func := "loop.example/g00296/laws.FnExactWins", spec := "fnExactWins", apart := false }
def FnExactWinsSaid : Prop := fnExactWinsRow.holds Try.pinned (OpenSpec.ofChange fnExactWinsSpec)

/-- ITS FALSE NEIGHBOUR: 'it returns false'. Refute it at one input. -/
def fnExactWinsWrong : ChangeSpec := { name := "fnExactWins", fn := fun _ => fun
  | [d] => { results := [.lit (.bool false)], args := [d] }
  | _ => none }
def FnExactWinsWrongFalsely : Prop := fnExactWinsRow.holds Try.pinned (OpenSpec.ofChange fnExactWinsWrong)

/- THE SECOND FORM. 'bulk': how many values and letters a reading holds, each counted each time it is reached (what is shared counts as often as it is met; a slice's spare places count too). A statement '..UptoSaid' is the law's where the arguments, and the package variables that the reading takes, are together of bulk at most 1048576: NARROWER than '..Said'. Prove '..Said' where nothing that the law and all that it calls make is longer than what came in: it says more and counts as full. Else prove '..UptoSaid'. A law counts once. -/
mutual
def uptoBulk {H : Type} : DataW H → Nat
  | .lit (.string bytes) => bytes.length + 1
  | .lit _ => 1
  | .nil => 1
  | .ptr d => uptoBulk d + 1
  | .slice elems spare => uptoBulkAll elems + uptoBulkAll spare + 1
  | .agg parts => uptoBulkAll parts + 1
  | .iface _ d => uptoBulk d + 1
  | .map entries => uptoBulkEntries entries + 1
  | .held _ => 1
def uptoBulkAll {H : Type} : List (DataW H) → Nat
  | [] => 0
  | d :: r => uptoBulk d + uptoBulkAll r
def uptoBulkEntries {H : Type} : List (Lit × DataW H) → Nat
  | [] => 0
  | x :: r => uptoBulkEntry x + uptoBulkEntries r
def uptoBulkEntry {H : Type} : Lit × DataW H → Nat
  | (.string bytes, d) => bytes.length + uptoBulk d + 1
  | (_, d) => uptoBulk d + 1
 end
def uptoSmall : (H : Type) → List (DataW H) → Bool := fun _ ds => decide (uptoBulkAll ds ≤ 1048576)
def OpenSpec.upto (s : _root_.Go.ChangeSpec) : _root_.Go.OpenSpec := { _root_.Go.OpenSpec.ofChange s with cond := some uptoSmall }

/-- 'laws.FnCells', WHERE WHAT IT READS IS OF BULK AT MOST 1048576: true; the input reads as it did. -/
def fnCellsUptoRow : OpenClaim := { program := "ytdplpkobpoiioaa", sum := "9d879f73edaeb1876dce55c9f162e37bcfc941936f850a1708beabb969e655f2", func := "loop.example/g00296/laws.FnCells", spec := "fnCells", apart := false, narrowed := true }
def FnCellsUptoSaid : Prop := fnCellsUptoRow.holds Try.pinned (OpenSpec.upto fnCellsSpec)

/-- 'laws.FnExactMemoryOk', WHERE WHAT IT READS IS OF BULK AT MOST 1048576: true; the input reads as it did. -/
def fnExactMemoryOkUptoRow : OpenClaim := { program := "ytdplpkobpoiioaa", sum := "9d879f73edaeb1876dce55c9f162e37bcfc941936f850a1708beabb969e655f2", func := "loop.example/g00296/laws.FnExactMemoryOk", spec := "fnExactMemoryOk", apart := false, narrowed := true }
def FnExactMemoryOkUptoSaid : Prop := fnExactMemoryOkUptoRow.holds Try.pinned (OpenSpec.upto fnExactMemoryOkSpec)

/-- 'laws.FnExactPicked', WHERE WHAT IT READS IS OF BULK AT MOST 1048576: true; the input reads as it did. -/
def fnExactPickedUptoRow : OpenClaim := { program := "ytdplpkobpoiioaa", sum := "9d879f73edaeb1876dce55c9f162e37bcfc941936f850a1708beabb969e655f2", func := "loop.example/g00296/laws.FnExactPicked", spec := "fnExactPicked", apart := false, narrowed := true }
def FnExactPickedUptoSaid : Prop := fnExactPickedUptoRow.holds Try.pinned (OpenSpec.upto fnExactPickedSpec)

/-- 'laws.FnExactPlayed', WHERE WHAT IT READS IS OF BULK AT MOST 1048576: true; the input reads as it did. -/
def fnExactPlayedUptoRow : OpenClaim := { program := "ytdplpkobpoiioaa", sum := "9d879f73edaeb1876dce55c9f162e37bcfc941936f850a1708beabb969e655f2", func := "loop.example/g00296/laws.FnExactPlayed", spec := "fnExactPlayed", apart := false, narrowed := true }
def FnExactPlayedUptoSaid : Prop := fnExactPlayedUptoRow.holds Try.pinned (OpenSpec.upto fnExactPlayedSpec)

/-- 'laws.FnExactThrough', WHERE WHAT IT READS IS OF BULK AT MOST 1048576: true; the input reads as it did. -/
def fnExactThroughUptoRow : OpenClaim := { program := "ytdplpkobpoiioaa", sum := "9d879f73edaeb1876dce55c9f162e37bcfc941936f850a1708beabb969e655f2", func := "loop.example/g00296/laws.FnExactThrough", spec := "fnExactThrough", apart := false, narrowed := true }
def FnExactThroughUptoSaid : Prop := fnExactThroughUptoRow.holds Try.pinned (OpenSpec.upto fnExactThroughSpec)

/-- 'laws.FnExactWins', WHERE WHAT IT READS IS OF BULK AT MOST 1048576: true; the input reads as it did. -/
def fnExactWinsUptoRow : OpenClaim := { program := "ytdplpkobpoiioaa", sum := "9d879f73edaeb1876dce55c9f162e37bcfc941936f850a1708beabb969e655f2", func := "loop.example/g00296/laws.FnExactWins", spec := "fnExactWins", apart := false, narrowed := true }
def FnExactWinsUptoSaid : Prop := fnExactWinsUptoRow.holds Try.pinned (OpenSpec.upto fnExactWinsSpec)

end Rows
end Go.Proofs.Ytdplpkobpoiioaa
