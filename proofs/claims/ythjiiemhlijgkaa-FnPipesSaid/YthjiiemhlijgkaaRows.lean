/-
  No cell of these rows narrows 'for every input' (looked for: loops, veiled, ifaces, maps, wideKeys, modest, calm, conditions, laid).
  DERIVED. THE GIVEN ROWS OF THIS SEAT. 6 by the template 'for every input the law returns true; each argument reads behind the call as it read before'; 0 by the template 'total and deterministic' (their statements: YthjiiemhlijgkaaTotals.lean).
  GIVEN WITH THE SEED: the statements are not yours to turn. If you find one false, say at which input.
  Laid BY PROGRAM, IN A SANDBOX (cutbox-rows.mjs): the forced cells as the released guide's own fill.sh prints them over the translation fee4b76109ba12fa… (all of the seat's roots in one cut). By AI agents, Wed Nov 11 2026. No macro, syntax, notation, axiom, sorry.
-/
import Derived.Test.YthjiiemhlijgkaaChecked
import GoSem.Claim
import GoSem.ClaimJoined
import GoSem.ClaimMapViews
import Derived.JoinedTies
import Derived.KernelRfl
namespace Go.Proofs.Ythjiiemhlijgkaa
/- THE CELL 'sum', in the pinned program and in every row, IS THE sha256 OF THE DUMP (.gsa) THAT YthjiiemhlijgkaaProg.lean LOADS. Nothing in Lean hashes anything: it is a label: what it is worth is what the hold of that sum in a sandbox is worth. -/
noncomputable def Try.pinned : Pinned := { name := "ythjiiemhlijgkaa", sum := "fee4b76109ba12fa6bf0c786a67dc2f8493c9d9a9f0ade2f0fff2b839728cca7", checked := Try.checked }
namespace Rows
def none {H : Type} : Left H := { results := [], args := [] }

/-- 'laws.FnPipes': WHATEVER THE INPUT: true; the input reads as it did. -/
def fnPipesSpec : ChangeSpec := { name := "fnPipes", fn := fun _ => fun
  | [d] => { results := [.lit (.bool true)], args := [d] }
  | _ => none }
def fnPipesRow : OpenClaim := { program := "ythjiiemhlijgkaa", sum := "fee4b76109ba12fa6bf0c786a67dc2f8493c9d9a9f0ade2f0fff2b839728cca7", func := "loop.example/g00296/laws.FnPipes", spec := "fnPipes", unfollowed := true, recurses := true, apart := false }
def FnPipesSaid : Prop := fnPipesRow.holds Try.pinned (OpenSpec.ofChange fnPipesSpec)

/-- ITS FALSE NEIGHBOUR: 'it returns false'. Refute it at one input. -/
def fnPipesWrong : ChangeSpec := { name := "fnPipes", fn := fun _ => fun
  | [d] => { results := [.lit (.bool false)], args := [d] }
  | _ => none }
def FnPipesWrongFalsely : Prop := fnPipesRow.holds Try.pinned (OpenSpec.ofChange fnPipesWrong)

/-- 'laws.FnExactPipeOk': WHATEVER THE INPUT: true; the input reads as it did. -/
def fnExactPipeOkSpec : ChangeSpec := { name := "fnExactPipeOk", fn := fun _ => fun
  | [d] => { results := [.lit (.bool true)], args := [d] }
  | _ => none }
def fnExactPipeOkRow : OpenClaim := { program := "ythjiiemhlijgkaa", sum := "fee4b76109ba12fa6bf0c786a67dc2f8493c9d9a9f0ade2f0fff2b839728cca7", func := "loop.example/g00296/laws.FnExactPipeOk", spec := "fnExactPipeOk", apart := false }
def FnExactPipeOkSaid : Prop := fnExactPipeOkRow.holds Try.pinned (OpenSpec.ofChange fnExactPipeOkSpec)

/-- ITS FALSE NEIGHBOUR: 'it returns false'. Refute it at one input. -/
def fnExactPipeOkWrong : ChangeSpec := { name := "fnExactPipeOk", fn := fun _ => fun
  | [d] => { results := [.lit (.bool false)], args := [d] }
  | _ => none }
def FnExactPipeOkWrongFalsely : Prop := fnExactPipeOkRow.holds Try.pinned (OpenSpec.ofChange fnExactPipeOkWrong)

/-- 'laws.FnExactNewPipe': WHATEVER THE INPUT: true; the input reads as it did. -/
def fnExactNewPipeSpec : ChangeSpec := { name := "fnExactNewPipe", fn := fun _ => fun
  | [d] => { results := [.lit (.bool true)], args := [d] }
  | _ => none }
def fnExactNewPipeRow : OpenClaim := { program := "ythjiiemhlijgkaa", sum := "fee4b76109ba12fa6bf0c786a67dc2f8493c9d9a9f0ade2f0fff2b839728cca7", func := "loop.example/g00296/laws.FnExactNewPipe", spec := "fnExactNewPipe", apart := false }
def FnExactNewPipeSaid : Prop := fnExactNewPipeRow.holds Try.pinned (OpenSpec.ofChange fnExactNewPipeSpec)

/-- ITS FALSE NEIGHBOUR: 'it returns false'. Refute it at one input. -/
def fnExactNewPipeWrong : ChangeSpec := { name := "fnExactNewPipe", fn := fun _ => fun
  | [d] => { results := [.lit (.bool false)], args := [d] }
  | _ => none }
def FnExactNewPipeWrongFalsely : Prop := fnExactNewPipeRow.holds Try.pinned (OpenSpec.ofChange fnExactNewPipeWrong)

/-- 'laws.FnExactPushed': WHATEVER THE INPUT: true; the input reads as it did. -/
def fnExactPushedSpec : ChangeSpec := { name := "fnExactPushed", fn := fun _ => fun
  | [d1, d2] => { results := [.lit (.bool true)], args := [d1, d2] }
  | _ => none }
def fnExactPushedRow : OpenClaim := { program := "ythjiiemhlijgkaa", sum := "fee4b76109ba12fa6bf0c786a67dc2f8493c9d9a9f0ade2f0fff2b839728cca7", func := "loop.example/g00296/laws.FnExactPushed", spec := "fnExactPushed", apart := false }
def FnExactPushedSaid : Prop := fnExactPushedRow.holds Try.pinned (OpenSpec.ofChange fnExactPushedSpec)

/-- ITS FALSE NEIGHBOUR: 'it returns false'. Refute it at one input. -/
def fnExactPushedWrong : ChangeSpec := { name := "fnExactPushed", fn := fun _ => fun
  | [d1, d2] => { results := [.lit (.bool false)], args := [d1, d2] }
  | _ => none }
def FnExactPushedWrongFalsely : Prop := fnExactPushedRow.holds Try.pinned (OpenSpec.ofChange fnExactPushedWrong)

/-- 'laws.FnExactPulled': WHATEVER THE INPUT: true; the input reads as it did. -/
def fnExactPulledSpec : ChangeSpec := { name := "fnExactPulled", fn := fun _ => fun
  | [d1, d2] => { results := [.lit (.bool true)], args := [d1, d2] }
  | _ => none }
def fnExactPulledRow : OpenClaim := { program := "ythjiiemhlijgkaa", sum := "fee4b76109ba12fa6bf0c786a67dc2f8493c9d9a9f0ade2f0fff2b839728cca7", func := "loop.example/g00296/laws.FnExactPulled", spec := "fnExactPulled", apart := false }
def FnExactPulledSaid : Prop := fnExactPulledRow.holds Try.pinned (OpenSpec.ofChange fnExactPulledSpec)

/-- ITS FALSE NEIGHBOUR: 'it returns false'. Refute it at one input. -/
def fnExactPulledWrong : ChangeSpec := { name := "fnExactPulled", fn := fun _ => fun
  | [d1, d2] => { results := [.lit (.bool false)], args := [d1, d2] }
  | _ => none }
def FnExactPulledWrongFalsely : Prop := fnExactPulledRow.holds Try.pinned (OpenSpec.ofChange fnExactPulledWrong)

/-- 'laws.FnExactClosed': WHATEVER THE INPUT: true; the input reads as it did. -/
def fnExactClosedSpec : ChangeSpec := { name := "fnExactClosed", fn := fun _ => fun
  | [d] => { results := [.lit (.bool true)], args := [d] }
  | _ => none }
def fnExactClosedRow : OpenClaim := { program := "ythjiiemhlijgkaa", sum := "fee4b76109ba12fa6bf0c786a67dc2f8493c9d9a9f0ade2f0fff2b839728cca7", func := "loop.example/g00296/laws.FnExactClosed", spec := "fnExactClosed", unfollowed := true, recurses := true, apart := false }
def FnExactClosedSaid : Prop := fnExactClosedRow.holds Try.pinned (OpenSpec.ofChange fnExactClosedSpec)

/-- ITS FALSE NEIGHBOUR: 'it returns false'. Refute it at one input. -/
def fnExactClosedWrong : ChangeSpec := { name := "fnExactClosed", fn := fun _ => fun
  | [d] => { results := [.lit (.bool false)], args := [d] }
  | _ => none }
def FnExactClosedWrongFalsely : Prop := fnExactClosedRow.holds Try.pinned (OpenSpec.ofChange fnExactClosedWrong)

/- THE SECOND FORM. 'bulk': how many values and letters a reading holds, each counted each time it is reached (what is shared counts as often as it is met; a slice's spare places count too). A statement '..UptoSaid' is the law's where the arguments, and the package variables that the reading takes, are together of bulk at most 1048576: NARROWER than '..Said'. Prove '..Said' where nothing that the law and all that it calls make is longer than what came in: it says more and counts as full. Else prove '..UptoSaid'. A law counts once. -/
mutual
def uptoBulk {H : Type} : DataW H → Nat
  | .lit (.string bytes) => bytes.length + 1
  | .lit _ => 1
  | .nil => 1
  | .ptr d => uptoBulk d + 1
  | .slice elems spare => uptoBulkAll elems + uptoBulkAll spare + 1
  | .agg parts => uptoBulkAll parts + 1
  | .iface _ d => uptoBulk d + 1
  | .map entries => uptoBulkEntries entries + 1
  | .held _ => 1
def uptoBulkAll {H : Type} : List (DataW H) → Nat
  | [] => 0
  | d :: r => uptoBulk d + uptoBulkAll r
def uptoBulkEntries {H : Type} : List (Lit × DataW H) → Nat
  | [] => 0
  | x :: r => uptoBulkEntry x + uptoBulkEntries r
def uptoBulkEntry {H : Type} : Lit × DataW H → Nat
  | (.string bytes, d) => bytes.length + uptoBulk d + 1
  | (_, d) => uptoBulk d + 1
 end
def uptoSmall : (H : Type) → List (DataW H) → Bool := fun _ ds => decide (uptoBulkAll ds ≤ 1048576)
def OpenSpec.upto (s : _root_.Go.ChangeSpec) : _root_.Go.OpenSpec := { _root_.Go.OpenSpec.ofChange s with cond := some uptoSmall }

/-- 'laws.FnPipes', WHERE WHAT IT READS IS OF BULK AT MOST 1048576: true; the input reads as it did. -/
def fnPipesUptoRow : OpenClaim := { program := "ythjiiemhlijgkaa", sum := "fee4b76109ba12fa6bf0c786a67dc2f8493c9d9a9f0ade2f0fff2b839728cca7", func := "loop.example/g00296/laws.FnPipes", spec := "fnPipes", unfollowed := true, recurses := true, apart := false, narrowed := true }
def FnPipesUptoSaid : Prop := fnPipesUptoRow.holds Try.pinned (OpenSpec.upto fnPipesSpec)

/-- 'laws.FnExactPipeOk', WHERE WHAT IT READS IS OF BULK AT MOST 1048576: true; the input reads as it did. -/
def fnExactPipeOkUptoRow : OpenClaim := { program := "ythjiiemhlijgkaa", sum := "fee4b76109ba12fa6bf0c786a67dc2f8493c9d9a9f0ade2f0fff2b839728cca7", func := "loop.example/g00296/laws.FnExactPipeOk", spec := "fnExactPipeOk", apart := false, narrowed := true }
def FnExactPipeOkUptoSaid : Prop := fnExactPipeOkUptoRow.holds Try.pinned (OpenSpec.upto fnExactPipeOkSpec)

/-- 'laws.FnExactNewPipe', WHERE WHAT IT READS IS OF BULK AT MOST 1048576: true; the input reads as it did. -/
def fnExactNewPipeUptoRow : OpenClaim := { program := "ythjiiemhlijgkaa", sum := "fee4b76109ba12fa6bf0c786a67dc2f8493c9d9a9f0ade2f0fff2b839728cca7", func := "loop.example/g00296/laws.FnExactNewPipe", spec := "fnExactNewPipe", apart := false, narrowed := true }
def FnExactNewPipeUptoSaid : Prop := fnExactNewPipeUptoRow.holds Try.pinned (OpenSpec.upto fnExactNewPipeSpec)

/-- 'laws.FnExactPushed', WHERE WHAT IT READS IS OF BULK AT MOST 1048576: true; the input reads as it did. -/
def fnExactPushedUptoRow : OpenClaim := { program := "ythjiiemhlijgkaa", sum := "fee4b76109ba12fa6bf0c786a67dc2f8493c9d9a9f0ade2f0fff2b839728cca7", func := "loop.example/g00296/laws.FnExactPushed", spec := "fnExactPushed", apart := false, narrowed := true }
def FnExactPushedUptoSaid : Prop := fnExactPushedUptoRow.holds Try.pinned (OpenSpec.upto fnExactPushedSpec)

/-- 'laws.FnExactPulled', WHERE WHAT IT READS IS OF BULK AT MOST 1048576: true; the input reads as it did. -/
def fnExactPulledUptoRow : OpenClaim := { program := "ythjiiemhlijgkaa", sum := "fee4b76109ba12fa6bf0c786a67dc2f8493c9d9a9f0ade2f0fff2b839728cca7", func := "loop.example/g00296/laws.FnExactPulled", spec := "fnExactPulled", apart := false, narrowed := true }
def FnExactPulledUptoSaid : Prop := fnExactPulledUptoRow.holds Try.pinned (OpenSpec.upto fnExactPulledSpec)

/-- 'laws.FnExactClosed', WHERE WHAT IT READS IS OF BULK AT MOST 1048576: true; the input reads as it did. -/
def fnExactClosedUptoRow : OpenClaim := { program := "ythjiiemhlijgkaa", sum := "fee4b76109ba12fa6bf0c786a67dc2f8493c9d9a9f0ade2f0fff2b839728cca7", func := "loop.example/g00296/laws.FnExactClosed", spec := "fnExactClosed", unfollowed := true, recurses := true, apart := false, narrowed := true }
def FnExactClosedUptoSaid : Prop := fnExactClosedUptoRow.holds Try.pinned (OpenSpec.upto fnExactClosedSpec)

end Rows
end Go.Proofs.Ythjiiemhlijgkaa
