/-
  No cell of these rows narrows 'for every input' (looked for: loops, veiled, ifaces, maps, wideKeys, modest, calm, conditions, laid).
  DERIVED. THE GIVEN ROWS OF THIS SEAT. 5 by the template 'for every input the law returns true; each argument reads behind the call as it read before'; 0 by the template 'total and deterministic' (their statements: YtjnbnbpjckodbaaTotals.lean).
  GIVEN WITH THE SEED: the statements are not yours to turn. If you find one false, say at which input.
  Laid BY PROGRAM, IN A SANDBOX (cutbox-rows.mjs): the forced cells as the released guide's own fill.sh prints them over the translation b7f22da4853433fe… (all of the seat's roots in one cut). By AI agents, Wed Nov 11 2026. No macro, syntax, notation, axiom, sorry.
-/
import Derived.Test.YtjnbnbpjckodbaaChecked
import GoSem.Claim
import GoSem.ClaimJoined
import GoSem.ClaimMapViews
import Derived.JoinedTies
import Derived.KernelRfl
namespace Go.Proofs.Ytjnbnbpjckodbaa
/- THE CELL 'sum', in the pinned program and in every row, IS THE sha256 OF THE DUMP (.gsa) THAT YtjnbnbpjckodbaaProg.lean LOADS. Nothing in Lean hashes anything: it is a label: what it is worth is what the hold of that sum in a sandbox is worth. -/
noncomputable def Try.pinned : Pinned := { name := "ytjnbnbpjckodbaa", sum := "b7f22da4853433fe17a60384cb6242fa8fa9f2702e49032bc3a2b222af3f6326", checked := Try.checked }
namespace Rows
def none {H : Type} : Left H := { results := [], args := [] }

/-- 'laws.FnPrefixes': WHATEVER THE INPUT: true; the input reads as it did. -/
def fnPrefixesSpec : ChangeSpec := { name := "fnPrefixes", fn := fun _ => fun
  | [d] => { results := [.lit (.bool true)], args := [d] }
  | _ => none }
def fnPrefixesRow : OpenClaim := { program := "ytjnbnbpjckodbaa", sum := "b7f22da4853433fe17a60384cb6242fa8fa9f2702e49032bc3a2b222af3f6326", func := "loop.example/g00296/laws.FnPrefixes", spec := "fnPrefixes", unfollowed := true, recurses := true, apart := false }
def FnPrefixesSaid : Prop := fnPrefixesRow.holds Try.pinned (OpenSpec.ofChange fnPrefixesSpec)

/-- ITS FALSE NEIGHBOUR: 'it returns false'. Refute it at one input. -/
def fnPrefixesWrong : ChangeSpec := { name := "fnPrefixes", fn := fun _ => fun
  | [d] => { results := [.lit (.bool false)], args := [d] }
  | _ => none }
def FnPrefixesWrongFalsely : Prop := fnPrefixesRow.holds Try.pinned (OpenSpec.ofChange fnPrefixesWrong)

/-- 'laws.FnExactPrefixed': WHATEVER THE INPUT: true; the input reads as it did. -/
def fnExactPrefixedSpec : ChangeSpec := { name := "fnExactPrefixed", fn := fun _ => fun
  | [d1, d2, d3] => { results := [.lit (.bool true)], args := [d1, d2, d3] }
  | _ => none }
def fnExactPrefixedRow : OpenClaim := { program := "ytjnbnbpjckodbaa", sum := "b7f22da4853433fe17a60384cb6242fa8fa9f2702e49032bc3a2b222af3f6326", func := "loop.example/g00296/laws.FnExactPrefixed", spec := "fnExactPrefixed", unfollowed := true, recurses := true, apart := false }
def FnExactPrefixedSaid : Prop := fnExactPrefixedRow.holds Try.pinned (OpenSpec.ofChange fnExactPrefixedSpec)

/-- ITS FALSE NEIGHBOUR: 'it returns false'. Refute it at one input. -/
def fnExactPrefixedWrong : ChangeSpec := { name := "fnExactPrefixed", fn := fun _ => fun
  | [d1, d2, d3] => { results := [.lit (.bool false)], args := [d1, d2, d3] }
  | _ => none }
def FnExactPrefixedWrongFalsely : Prop := fnExactPrefixedRow.holds Try.pinned (OpenSpec.ofChange fnExactPrefixedWrong)

/-- 'laws.FnExactReadPrefixed': WHATEVER THE INPUT: true; the input reads as it did. -/
def fnExactReadPrefixedSpec : ChangeSpec := { name := "fnExactReadPrefixed", fn := fun _ => fun
  | [d1, d2] => { results := [.lit (.bool true)], args := [d1, d2] }
  | _ => none }
def fnExactReadPrefixedRow : OpenClaim := { program := "ytjnbnbpjckodbaa", sum := "b7f22da4853433fe17a60384cb6242fa8fa9f2702e49032bc3a2b222af3f6326", func := "loop.example/g00296/laws.FnExactReadPrefixed", spec := "fnExactReadPrefixed", unfollowed := true, recurses := true, apart := false }
def FnExactReadPrefixedSaid : Prop := fnExactReadPrefixedRow.holds Try.pinned (OpenSpec.ofChange fnExactReadPrefixedSpec)

/-- ITS FALSE NEIGHBOUR: 'it returns false'. Refute it at one input. -/
def fnExactReadPrefixedWrong : ChangeSpec := { name := "fnExactReadPrefixed", fn := fun _ => fun
  | [d1, d2] => { results := [.lit (.bool false)], args := [d1, d2] }
  | _ => none }
def FnExactReadPrefixedWrongFalsely : Prop := fnExactReadPrefixedRow.holds Try.pinned (OpenSpec.ofChange fnExactReadPrefixedWrong)

/-- 'laws.FnExactHigh': WHATEVER THE INPUT: true; the input reads as it did. -/
def fnExactHighSpec : ChangeSpec := { name := "fnExactHigh", fn := fun _ => fun
  | [d1, d2] => { results := [.lit (.bool true)], args := [d1, d2] }
  | _ => none }
def fnExactHighRow : OpenClaim := { program := "ytjnbnbpjckodbaa", sum := "b7f22da4853433fe17a60384cb6242fa8fa9f2702e49032bc3a2b222af3f6326", func := "loop.example/g00296/laws.FnExactHigh", spec := "fnExactHigh", apart := false }
def FnExactHighSaid : Prop := fnExactHighRow.holds Try.pinned (OpenSpec.ofChange fnExactHighSpec)

/-- ITS FALSE NEIGHBOUR: 'it returns false'. Refute it at one input. -/
def fnExactHighWrong : ChangeSpec := { name := "fnExactHigh", fn := fun _ => fun
  | [d1, d2] => { results := [.lit (.bool false)], args := [d1, d2] }
  | _ => none }
def FnExactHighWrongFalsely : Prop := fnExactHighRow.holds Try.pinned (OpenSpec.ofChange fnExactHighWrong)

/-- 'laws.FnExactWidth': WHATEVER THE INPUT: true; the input reads as it did. -/
def fnExactWidthSpec : ChangeSpec := { name := "fnExactWidth", fn := fun _ => fun
  | [d1, d2] => { results := [.lit (.bool true)], args := [d1, d2] }
  | _ => none }
def fnExactWidthRow : OpenClaim := { program := "ytjnbnbpjckodbaa", sum := "b7f22da4853433fe17a60384cb6242fa8fa9f2702e49032bc3a2b222af3f6326", func := "loop.example/g00296/laws.FnExactWidth", spec := "fnExactWidth", unfollowed := true, recurses := true, apart := false }
def FnExactWidthSaid : Prop := fnExactWidthRow.holds Try.pinned (OpenSpec.ofChange fnExactWidthSpec)

/-- ITS FALSE NEIGHBOUR: 'it returns false'. Refute it at one input. -/
def fnExactWidthWrong : ChangeSpec := { name := "fnExactWidth", fn := fun _ => fun
  | [d1, d2] => { results := [.lit (.bool false)], args := [d1, d2] }
  | _ => none }
def FnExactWidthWrongFalsely : Prop := fnExactWidthRow.holds Try.pinned (OpenSpec.ofChange fnExactWidthWrong)

/- THE SECOND FORM. 'bulk': how many values and letters a reading holds, each counted each time it is reached (what is shared counts as often as it is met; a slice's spare places count too). A statement '..UptoSaid' is the law's where the arguments, and the package variables that the reading takes, are together of bulk at most 1048576: NARROWER than '..Said'. Prove '..Said' where nothing that the law and all that it calls make is longer than what came in: it says more and counts as full. Else prove '..UptoSaid'. A law counts once. -/
mutual
def uptoBulk {H : Type} : DataW H → Nat
  | .lit (.string bytes) => bytes.length + 1
  | .lit _ => 1
  | .nil => 1
  | .ptr d => uptoBulk d + 1
  | .slice elems spare => uptoBulkAll elems + uptoBulkAll spare + 1
  | .agg parts => uptoBulkAll parts + 1
  | .iface _ d => uptoBulk d + 1
  | .map entries => uptoBulkEntries entries + 1
  | .held _ => 1
def uptoBulkAll {H : Type} : List (DataW H) → Nat
  | [] => 0
  | d :: r => uptoBulk d + uptoBulkAll r
def uptoBulkEntries {H : Type} : List (Lit × DataW H) → Nat
  | [] => 0
  | x :: r => uptoBulkEntry x + uptoBulkEntries r
def uptoBulkEntry {H : Type} : Lit × DataW H → Nat
  | (.string bytes, d) => bytes.length + uptoBulk d + 1
  | (_, d) => uptoBulk d + 1
 end
def uptoSmall : (H : Type) → List (DataW H) → Bool := fun _ ds => decide (uptoBulkAll ds ≤ 1048576)
def OpenSpec.upto (s : _root_.Go.ChangeSpec) : _root_.Go.OpenSpec := { _root_.Go.OpenSpec.ofChange s with cond := some uptoSmall }

/-- 'laws.FnPrefixes', WHERE WHAT IT READS IS OF BULK AT MOST 1048576: true; the input reads as it did. -/
def fnPrefixesUptoRow : OpenClaim := { program := "ytjnbnbpjckodbaa", sum := "b7f22da4853433fe17a60384cb6242fa8fa9f2702e49032bc3a2b222af3f6326", func := "loop.example/g00296/laws.FnPrefixes", spec := "fnPrefixes", unfollowed := true, recurses := true, apart := false, narrowed := true }
def FnPrefixesUptoSaid : Prop := fnPrefixesUptoRow.holds Try.pinned (OpenSpec.upto fnPrefixesSpec)

/-- 'laws.FnExactPrefixed', WHERE WHAT IT READS IS OF BULK AT MOST 1048576: true; the input reads as it did. -/
def fnExactPrefixedUptoRow : OpenClaim := { program := "ytjnbnbpjckodbaa", sum := "b7f22da4853433fe17a60384cb6242fa8fa9f2702e49032bc3a2b222af3f6326", func := "loop.example/g00296/laws.FnExactPrefixed", spec := "fnExactPrefixed", unfollowed := true, recurses := true, apart := false, narrowed := true }
def FnExactPrefixedUptoSaid : Prop := fnExactPrefixedUptoRow.holds Try.pinned (OpenSpec.upto fnExactPrefixedSpec)

/-- 'laws.FnExactReadPrefixed', WHERE WHAT IT READS IS OF BULK AT MOST 1048576: true; the input reads as it did. -/
def fnExactReadPrefixedUptoRow : OpenClaim := { program := "ytjnbnbpjckodbaa", sum := "b7f22da4853433fe17a60384cb6242fa8fa9f2702e49032bc3a2b222af3f6326", func := "loop.example/g00296/laws.FnExactReadPrefixed", spec := "fnExactReadPrefixed", unfollowed := true, recurses := true, apart := false, narrowed := true }
def FnExactReadPrefixedUptoSaid : Prop := fnExactReadPrefixedUptoRow.holds Try.pinned (OpenSpec.upto fnExactReadPrefixedSpec)

/-- 'laws.FnExactHigh', WHERE WHAT IT READS IS OF BULK AT MOST 1048576: true; the input reads as it did. -/
def fnExactHighUptoRow : OpenClaim := { program := "ytjnbnbpjckodbaa", sum := "b7f22da4853433fe17a60384cb6242fa8fa9f2702e49032bc3a2b222af3f6326", func := "loop.example/g00296/laws.FnExactHigh", spec := "fnExactHigh", apart := false, narrowed := true }
def FnExactHighUptoSaid : Prop := fnExactHighUptoRow.holds Try.pinned (OpenSpec.upto fnExactHighSpec)

/-- 'laws.FnExactWidth', WHERE WHAT IT READS IS OF BULK AT MOST 1048576: true; the input reads as it did. -/
def fnExactWidthUptoRow : OpenClaim := { program := "ytjnbnbpjckodbaa", sum := "b7f22da4853433fe17a60384cb6242fa8fa9f2702e49032bc3a2b222af3f6326", func := "loop.example/g00296/laws.FnExactWidth", spec := "fnExactWidth", unfollowed := true, recurses := true, apart := false, narrowed := true }
def FnExactWidthUptoSaid : Prop := fnExactWidthUptoRow.holds Try.pinned (OpenSpec.upto fnExactWidthSpec)

end Rows
end Go.Proofs.Ytjnbnbpjckodbaa
