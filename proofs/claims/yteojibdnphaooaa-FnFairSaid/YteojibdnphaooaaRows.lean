/-
  No cell of these rows narrows 'for every input' (looked for: loops, veiled, ifaces, maps, wideKeys, modest, calm, conditions, laid).
  DERIVED. THE GIVEN ROWS OF THIS SEAT. 6 by the template 'for every input the law returns true; each argument reads behind the call as it read before'; 0 by the template 'total and deterministic' (their statements: YteojibdnphaooaaTotals.lean).
  GIVEN WITH THE SEED: the statements are not yours to turn. If you find one false, say at which input.
  Laid BY PROGRAM, IN A SANDBOX (cutbox-rows.mjs): the forced cells as the released guide's own fill.sh prints them over the translation 6eab37cea24b627c… (all of the seat's roots in one cut). By AI agents, Wed Nov 11 2026. No macro, syntax, notation, axiom, sorry.
-/
import Derived.Test.YteojibdnphaooaaChecked
import GoSem.Claim
import GoSem.ClaimJoined
import GoSem.ClaimMapViews
import Derived.JoinedTies
import Derived.KernelRfl
namespace Go.Proofs.Yteojibdnphaooaa
/- THE CELL 'sum', in the pinned program and in every row, IS THE sha256 OF THE DUMP (.gsa) THAT YteojibdnphaooaaProg.lean LOADS. Nothing in Lean hashes anything: it is a label: what it is worth is what the hold of that sum in a sandbox is worth. -/
noncomputable def Try.pinned : Pinned := { name := "yteojibdnphaooaa", sum := "6eab37cea24b627cf058ba3ec2917cd49ebafbcd56fc7bebdd447acd9b3d7b2c", checked := Try.checked }
namespace Rows
def none {H : Type} : Left H := { results := [], args := [] }

/-- 'laws.FnFair': WHATEVER THE INPUT: true; the input reads as it did. -/
def fnFairSpec : ChangeSpec := { name := "fnFair", fn := fun _ => fun
  | [d] => { results := [.lit (.bool true)], args := [d] }
  | _ => none }
def fnFairRow : OpenClaim := { program := "yteojibdnphaooaa", sum := "6eab37cea24b627cf058ba3ec2917cd49ebafbcd56fc7bebdd447acd9b3d7b2c", func := "loop.example/g00296/laws.FnFair", spec := "fnFair", unfollowed := true, recurses := true, apart := false }
def FnFairSaid : Prop := fnFairRow.holds Try.pinned (OpenSpec.ofChange fnFairSpec)

/-- ITS FALSE NEIGHBOUR: 'it returns false'. Refute it at one input. -/
def fnFairWrong : ChangeSpec := { name := "fnFair", fn := fun _ => fun
  | [d] => { results := [.lit (.bool false)], args := [d] }
  | _ => none }
def FnFairWrongFalsely : Prop := fnFairRow.holds Try.pinned (OpenSpec.ofChange fnFairWrong)

/-- 'laws.FnQueues': WHATEVER THE INPUT: true; the input reads as it did. -/
def fnQueuesSpec : ChangeSpec := { name := "fnQueues", fn := fun _ => fun
  | [d] => { results := [.lit (.bool true)], args := [d] }
  | _ => none }
def fnQueuesRow : OpenClaim := { program := "yteojibdnphaooaa", sum := "6eab37cea24b627cf058ba3ec2917cd49ebafbcd56fc7bebdd447acd9b3d7b2c", func := "loop.example/g00296/laws.FnQueues", spec := "fnQueues", unfollowed := true, recurses := true, apart := false }
def FnQueuesSaid : Prop := fnQueuesRow.holds Try.pinned (OpenSpec.ofChange fnQueuesSpec)

/-- ITS FALSE NEIGHBOUR: 'it returns false'. Refute it at one input. -/
def fnQueuesWrong : ChangeSpec := { name := "fnQueues", fn := fun _ => fun
  | [d] => { results := [.lit (.bool false)], args := [d] }
  | _ => none }
def FnQueuesWrongFalsely : Prop := fnQueuesRow.holds Try.pinned (OpenSpec.ofChange fnQueuesWrong)

/-- 'laws.FnExactRoundOk': WHATEVER THE INPUT: true; the input reads as it did. -/
def fnExactRoundOkSpec : ChangeSpec := { name := "fnExactRoundOk", fn := fun _ => fun
  | [d] => { results := [.lit (.bool true)], args := [d] }
  | _ => none }
def fnExactRoundOkRow : OpenClaim := { program := "yteojibdnphaooaa", sum := "6eab37cea24b627cf058ba3ec2917cd49ebafbcd56fc7bebdd447acd9b3d7b2c", func := "loop.example/g00296/laws.FnExactRoundOk", spec := "fnExactRoundOk", apart := false }
def FnExactRoundOkSaid : Prop := fnExactRoundOkRow.holds Try.pinned (OpenSpec.ofChange fnExactRoundOkSpec)

/-- ITS FALSE NEIGHBOUR: 'it returns false'. Refute it at one input. -/
def fnExactRoundOkWrong : ChangeSpec := { name := "fnExactRoundOk", fn := fun _ => fun
  | [d] => { results := [.lit (.bool false)], args := [d] }
  | _ => none }
def FnExactRoundOkWrongFalsely : Prop := fnExactRoundOkRow.holds Try.pinned (OpenSpec.ofChange fnExactRoundOkWrong)

/-- 'laws.FnExactQueued': WHATEVER THE INPUT: true; the input reads as it did. -/
def fnExactQueuedSpec : ChangeSpec := { name := "fnExactQueued", fn := fun _ => fun
  | [d1, d2, d3] => { results := [.lit (.bool true)], args := [d1, d2, d3] }
  | _ => none }
def fnExactQueuedRow : OpenClaim := { program := "yteojibdnphaooaa", sum := "6eab37cea24b627cf058ba3ec2917cd49ebafbcd56fc7bebdd447acd9b3d7b2c", func := "loop.example/g00296/laws.FnExactQueued", spec := "fnExactQueued", apart := false }
def FnExactQueuedSaid : Prop := fnExactQueuedRow.holds Try.pinned (OpenSpec.ofChange fnExactQueuedSpec)

/-- ITS FALSE NEIGHBOUR: 'it returns false'. Refute it at one input. -/
def fnExactQueuedWrong : ChangeSpec := { name := "fnExactQueued", fn := fun _ => fun
  | [d1, d2, d3] => { results := [.lit (.bool false)], args := [d1, d2, d3] }
  | _ => none }
def FnExactQueuedWrongFalsely : Prop := fnExactQueuedRow.holds Try.pinned (OpenSpec.ofChange fnExactQueuedWrong)

/-- 'laws.FnExactServed': WHATEVER THE INPUT: true; the input reads as it did. -/
def fnExactServedSpec : ChangeSpec := { name := "fnExactServed", fn := fun _ => fun
  | [d] => { results := [.lit (.bool true)], args := [d] }
  | _ => none }
def fnExactServedRow : OpenClaim := { program := "yteojibdnphaooaa", sum := "6eab37cea24b627cf058ba3ec2917cd49ebafbcd56fc7bebdd447acd9b3d7b2c", func := "loop.example/g00296/laws.FnExactServed", spec := "fnExactServed", unfollowed := true, recurses := true, apart := false }
def FnExactServedSaid : Prop := fnExactServedRow.holds Try.pinned (OpenSpec.ofChange fnExactServedSpec)

/-- ITS FALSE NEIGHBOUR: 'it returns false'. Refute it at one input. -/
def fnExactServedWrong : ChangeSpec := { name := "fnExactServed", fn := fun _ => fun
  | [d] => { results := [.lit (.bool false)], args := [d] }
  | _ => none }
def FnExactServedWrongFalsely : Prop := fnExactServedRow.holds Try.pinned (OpenSpec.ofChange fnExactServedWrong)

/-- 'laws.FnExactWaiting': WHATEVER THE INPUT: true; the input reads as it did. -/
def fnExactWaitingSpec : ChangeSpec := { name := "fnExactWaiting", fn := fun _ => fun
  | [d] => { results := [.lit (.bool true)], args := [d] }
  | _ => none }
def fnExactWaitingRow : OpenClaim := { program := "yteojibdnphaooaa", sum := "6eab37cea24b627cf058ba3ec2917cd49ebafbcd56fc7bebdd447acd9b3d7b2c", func := "loop.example/g00296/laws.FnExactWaiting", spec := "fnExactWaiting", apart := false }
def FnExactWaitingSaid : Prop := fnExactWaitingRow.holds Try.pinned (OpenSpec.ofChange fnExactWaitingSpec)

/-- ITS FALSE NEIGHBOUR: 'it returns false'. Refute it at one input. -/
def fnExactWaitingWrong : ChangeSpec := { name := "fnExactWaiting", fn := fun _ => fun
  | [d] => { results := [.lit (.bool false)], args := [d] }
  | _ => none }
def FnExactWaitingWrongFalsely : Prop := fnExactWaitingRow.holds Try.pinned (OpenSpec.ofChange fnExactWaitingWrong)

/- THE SECOND FORM. 'bulk': how many values and letters a reading holds, each counted each time it is reached (what is shared counts as often as it is met; a slice's spare places count too). A statement '..UptoSaid' is the law's where the arguments, and the package variables that the reading takes, are together of bulk at most 1048576: NARROWER than '..Said'. Prove '..Said' where nothing that the law and all that it calls make is longer than what came in: it says more and counts as full. Else prove '..UptoSaid'. A law counts once. -/
mutual
def uptoBulk {H : Type} : DataW H → Nat
  | .lit (.string bytes) => bytes.length + 1
  | .lit _ => 1
  | .nil => 1
  | .ptr d => uptoBulk d + 1
  | .slice elems spare => uptoBulkAll elems + uptoBulkAll spare + 1
  | .agg parts => uptoBulkAll parts + 1
  | .iface _ d => uptoBulk d + 1
  | .map entries => uptoBulkEntries entries + 1
  | .held _ => 1
def uptoBulkAll {H : Type} : List (DataW H) → Nat
  | [] => 0
  | d :: r => uptoBulk d + uptoBulkAll r
def uptoBulkEntries {H : Type} : List (Lit × DataW H) → Nat
  | [] => 0
  | x :: r => uptoBulkEntry x + uptoBulkEntries r
def uptoBulkEntry {H : Type} : Lit × DataW H → Nat
  | (.string bytes, d) => bytes.length + uptoBulk d + 1
  | (_, d) => uptoBulk d + 1
 end
def uptoSmall : (H : Type) → List (DataW H) → Bool := fun _ ds => decide (uptoBulkAll ds ≤ 1048576)
def OpenSpec.upto (s : _root_.Go.ChangeSpec) : _root_.Go.OpenSpec := { _root_.Go.OpenSpec.ofChange s with cond := some uptoSmall }

/-- 'laws.FnFair', WHERE WHAT IT READS IS OF BULK AT MOST 1048576: true; the input reads as it did. -/
def fnFairUptoRow : OpenClaim := { program := "yteojibdnphaooaa", sum := "6eab37cea24b627cf058ba3ec2917cd49ebafbcd56fc7bebdd447acd9b3d7b2c", func := "loop.example/g00296/laws.FnFair", spec := "fnFair", unfollowed := true, recurses := true, apart := false, narrowed := true }
def FnFairUptoSaid : Prop := fnFairUptoRow.holds Try.pinned (OpenSpec.upto fnFairSpec)

/-- 'laws.FnQueues', WHERE WHAT IT READS IS OF BULK AT MOST 1048576: true; the input reads as it did. -/
def fnQueuesUptoRow : OpenClaim := { program := "yteojibdnphaooaa", sum := "6eab37cea24b627cf058ba3ec2917cd49ebafbcd56fc7bebdd447acd9b3d7b2c", func := "loop.example/g00296/laws.FnQueues", spec := "fnQueues", unfollowed := true, recurses := true, apart := false, narrowed := true }
def FnQueuesUptoSaid : Prop := fnQueuesUptoRow.holds Try.pinned (OpenSpec.upto fnQueuesSpec)

/-- 'laws.FnExactRoundOk', WHERE WHAT IT READS IS OF BULK AT MOST 1048576: true; the input reads as it did. -/
def fnExactRoundOkUptoRow : OpenClaim := { program := "yteojibdnphaooaa", sum := "6eab37cea24b627cf058ba3ec2917cd49ebafbcd56fc7bebdd447acd9b3d7b2c", func := "loop.example/g00296/laws.FnExactRoundOk", spec := "fnExactRoundOk", apart := false, narrowed := true }
def FnExactRoundOkUptoSaid : Prop := fnExactRoundOkUptoRow.holds Try.pinned (OpenSpec.upto fnExactRoundOkSpec)

/-- 'laws.FnExactQueued', WHERE WHAT IT READS IS OF BULK AT MOST 1048576: true; the input reads as it did. -/
def fnExactQueuedUptoRow : OpenClaim := { program := "yteojibdnphaooaa", sum := "6eab37cea24b627cf058ba3ec2917cd49ebafbcd56fc7bebdd447acd9b3d7b2c", func := "loop.example/g00296/laws.FnExactQueued", spec := "fnExactQueued", apart := false, narrowed := true }
def FnExactQueuedUptoSaid : Prop := fnExactQueuedUptoRow.holds Try.pinned (OpenSpec.upto fnExactQueuedSpec)

/-- 'laws.FnExactServed', WHERE WHAT IT READS IS OF BULK AT MOST 1048576: true; the input reads as it did. -/
def fnExactServedUptoRow : OpenClaim := { program := "yteojibdnphaooaa", sum := "6eab37cea24b627cf058ba3ec2917cd49ebafbcd56fc7bebdd447acd9b3d7b2c", func := "loop.example/g00296/laws.FnExactServed", spec := "fnExactServed", unfollowed := true, recurses := true, apart := false, narrowed := true }
def FnExactServedUptoSaid : Prop := fnExactServedUptoRow.holds Try.pinned (OpenSpec.upto fnExactServedSpec)

/-- 'laws.FnExactWaiting', WHERE WHAT IT READS IS OF BULK AT MOST 1048576: true; the input reads as it did. -/
def fnExactWaitingUptoRow : OpenClaim := { program := "yteojibdnphaooaa", sum := "6eab37cea24b627cf058ba3ec2917cd49ebafbcd56fc7bebdd447acd9b3d7b2c", func := "loop.example/g00296/laws.FnExactWaiting", spec := "fnExactWaiting", apart := false, narrowed := true }
def FnExactWaitingUptoSaid : Prop := fnExactWaitingUptoRow.holds Try.pinned (OpenSpec.upto fnExactWaitingSpec)

end Rows
end Go.Proofs.Yteojibdnphaooaa
