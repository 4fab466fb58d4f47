/-
  No cell of these rows narrows 'for every input' (looked for: loops, veiled, ifaces, maps, wideKeys, modest, calm, conditions, laid).
  DERIVED. THE GIVEN ROWS OF THIS SEAT. 5 by the template 'for every input the law returns true; each argument reads behind the call as it read before'; 0 by the template 'total and deterministic' (their statements: YtgodopiejiajjaaTotals.lean).
  GIVEN WITH THE SEED: the statements are not yours to turn. If you find one false, say at which input.
  Laid BY PROGRAM, IN A SANDBOX (cutbox-rows.mjs): the forced cells as the released guide's own fill.sh prints them over the translation bcd28ab6fd51cd62… (all of the seat's roots in one cut). By AI agents, Wed Nov 11 2026. No macro, syntax, notation, axiom, sorry.
-/
import Derived.Test.YtgodopiejiajjaaChecked
import GoSem.Claim
import GoSem.ClaimJoined
import GoSem.ClaimMapViews
import Derived.JoinedTies
import Derived.KernelRfl
namespace Go.Proofs.Ytgodopiejiajjaa
/- THE CELL 'sum', in the pinned program and in every row, IS THE sha256 OF THE DUMP (.gsa) THAT YtgodopiejiajjaaProg.lean LOADS. Nothing in Lean hashes anything: it is a label: what it is worth is what the hold of that sum in a sandbox is worth. -/
noncomputable def Try.pinned : Pinned := { name := "ytgodopiejiajjaa", sum := "bcd28ab6fd51cd62e1872029c3e52f8161b1c8022085edac42303cb2bebe01de", checked := Try.checked }
namespace Rows
def none {H : Type} : Left H := { results := [], args := [] }

/-- 'laws.FnNoTwice': WHATEVER THE INPUT: true; the input reads as it did. -/
def fnNoTwiceSpec : ChangeSpec := { name := "fnNoTwice", fn := fun _ => fun
  | [d] => { results := [.lit (.bool true)], args := [d] }
  | _ => none }
def fnNoTwiceRow : OpenClaim := { program := "ytgodopiejiajjaa", sum := "bcd28ab6fd51cd62e1872029c3e52f8161b1c8022085edac42303cb2bebe01de", func := "loop.example/g00296/laws.FnNoTwice", spec := "fnNoTwice", unfollowed := true, recurses := true, plainKeys := false, apart := false }
def FnNoTwiceSaid : Prop := fnNoTwiceRow.holds Try.pinned (OpenSpec.ofChange fnNoTwiceSpec)

/-- ITS FALSE NEIGHBOUR: 'it returns false'. Refute it at one input. -/
def fnNoTwiceWrong : ChangeSpec := { name := "fnNoTwice", fn := fun _ => fun
  | [d] => { results := [.lit (.bool false)], args := [d] }
  | _ => none }
def FnNoTwiceWrongFalsely : Prop := fnNoTwiceRow.holds Try.pinned (OpenSpec.ofChange fnNoTwiceWrong)

/-- 'laws.FnExactRegistryOk': WHATEVER THE INPUT: true; the input reads as it did. -/
def fnExactRegistryOkSpec : ChangeSpec := { name := "fnExactRegistryOk", fn := fun _ => fun
  | [d] => { results := [.lit (.bool true)], args := [d] }
  | _ => none }
def fnExactRegistryOkRow : OpenClaim := { program := "ytgodopiejiajjaa", sum := "bcd28ab6fd51cd62e1872029c3e52f8161b1c8022085edac42303cb2bebe01de", func := "loop.example/g00296/laws.FnExactRegistryOk", spec := "fnExactRegistryOk", unfollowed := true, recurses := true, plainKeys := false, apart := false }
def FnExactRegistryOkSaid : Prop := fnExactRegistryOkRow.holds Try.pinned (OpenSpec.ofChange fnExactRegistryOkSpec)

/-- ITS FALSE NEIGHBOUR: 'it returns false'. Refute it at one input. -/
def fnExactRegistryOkWrong : ChangeSpec := { name := "fnExactRegistryOk", fn := fun _ => fun
  | [d] => { results := [.lit (.bool false)], args := [d] }
  | _ => none }
def FnExactRegistryOkWrongFalsely : Prop := fnExactRegistryOkRow.holds Try.pinned (OpenSpec.ofChange fnExactRegistryOkWrong)

/-- 'laws.FnExactOpened': WHATEVER THE INPUT: true; the input reads as it did. -/
def fnExactOpenedSpec : ChangeSpec := { name := "fnExactOpened", fn := fun _ => fun
  | [d1, d2] => { results := [.lit (.bool true)], args := [d1, d2] }
  | _ => none }
def fnExactOpenedRow : OpenClaim := { program := "ytgodopiejiajjaa", sum := "bcd28ab6fd51cd62e1872029c3e52f8161b1c8022085edac42303cb2bebe01de", func := "loop.example/g00296/laws.FnExactOpened", spec := "fnExactOpened", unfollowed := true, recurses := true, plainKeys := false, apart := false }
def FnExactOpenedSaid : Prop := fnExactOpenedRow.holds Try.pinned (OpenSpec.ofChange fnExactOpenedSpec)

/-- ITS FALSE NEIGHBOUR: 'it returns false'. Refute it at one input. -/
def fnExactOpenedWrong : ChangeSpec := { name := "fnExactOpened", fn := fun _ => fun
  | [d1, d2] => { results := [.lit (.bool false)], args := [d1, d2] }
  | _ => none }
def FnExactOpenedWrongFalsely : Prop := fnExactOpenedRow.holds Try.pinned (OpenSpec.ofChange fnExactOpenedWrong)

/-- 'laws.FnExactHappened': WHATEVER THE INPUT: true; the input reads as it did. -/
def fnExactHappenedSpec : ChangeSpec := { name := "fnExactHappened", fn := fun _ => fun
  | [d1, d2, d3] => { results := [.lit (.bool true)], args := [d1, d2, d3] }
  | _ => none }
def fnExactHappenedRow : OpenClaim := { program := "ytgodopiejiajjaa", sum := "bcd28ab6fd51cd62e1872029c3e52f8161b1c8022085edac42303cb2bebe01de", func := "loop.example/g00296/laws.FnExactHappened", spec := "fnExactHappened", unfollowed := true, recurses := true, plainKeys := false, apart := false }
def FnExactHappenedSaid : Prop := fnExactHappenedRow.holds Try.pinned (OpenSpec.ofChange fnExactHappenedSpec)

/-- ITS FALSE NEIGHBOUR: 'it returns false'. Refute it at one input. -/
def fnExactHappenedWrong : ChangeSpec := { name := "fnExactHappened", fn := fun _ => fun
  | [d1, d2, d3] => { results := [.lit (.bool false)], args := [d1, d2, d3] }
  | _ => none }
def FnExactHappenedWrongFalsely : Prop := fnExactHappenedRow.holds Try.pinned (OpenSpec.ofChange fnExactHappenedWrong)

/-- 'laws.FnExactLive': WHATEVER THE INPUT: true; the input reads as it did. -/
def fnExactLiveSpec : ChangeSpec := { name := "fnExactLive", fn := fun _ => fun
  | [d] => { results := [.lit (.bool true)], args := [d] }
  | _ => none }
def fnExactLiveRow : OpenClaim := { program := "ytgodopiejiajjaa", sum := "bcd28ab6fd51cd62e1872029c3e52f8161b1c8022085edac42303cb2bebe01de", func := "loop.example/g00296/laws.FnExactLive", spec := "fnExactLive", unfollowed := true, recurses := true, plainKeys := false, apart := false }
def FnExactLiveSaid : Prop := fnExactLiveRow.holds Try.pinned (OpenSpec.ofChange fnExactLiveSpec)

/-- ITS FALSE NEIGHBOUR: 'it returns false'. Refute it at one input. -/
def fnExactLiveWrong : ChangeSpec := { name := "fnExactLive", fn := fun _ => fun
  | [d] => { results := [.lit (.bool false)], args := [d] }
  | _ => none }
def FnExactLiveWrongFalsely : Prop := fnExactLiveRow.holds Try.pinned (OpenSpec.ofChange fnExactLiveWrong)

/- THE SECOND FORM. 'bulk': how many values and letters a reading holds, each counted each time it is reached (what is shared counts as often as it is met; a slice's spare places count too). A statement '..UptoSaid' is the law's where the arguments, and the package variables that the reading takes, are together of bulk at most 1048576: NARROWER than '..Said'. Prove '..Said' where nothing that the law and all that it calls make is longer than what came in: it says more and counts as full. Else prove '..UptoSaid'. A law counts once. -/
mutual
def uptoBulk {H : Type} : DataW H → Nat
  | .lit (.string bytes) => bytes.length + 1
  | .lit _ => 1
  | .nil => 1
  | .ptr d => uptoBulk d + 1
  | .slice elems spare => uptoBulkAll elems + uptoBulkAll spare + 1
  | .agg parts => uptoBulkAll parts + 1
  | .iface _ d => uptoBulk d + 1
  | .map entries => uptoBulkEntries entries + 1
  | .held _ => 1
def uptoBulkAll {H : Type} : List (DataW H) → Nat
  | [] => 0
  | d :: r => uptoBulk d + uptoBulkAll r
def uptoBulkEntries {H : Type} : List (Lit × DataW H) → Nat
  | [] => 0
  | x :: r => uptoBulkEntry x + uptoBulkEntries r
def uptoBulkEntry {H : Type} : Lit × DataW H → Nat
  | (.string bytes, d) => bytes.length + uptoBulk d + 1
  | (_, d) => uptoBulk d + 1
 end
def uptoSmall : (H : Type) → List (DataW H) → Bool := fun _ ds => decide (uptoBulkAll ds ≤ 1048576)
def OpenSpec.upto (s : _root_.Go.ChangeSpec) : _root_.Go.OpenSpec := { _root_.Go.OpenSpec.ofChange s with cond := some uptoSmall }

/-- 'laws.FnNoTwice', WHERE WHAT IT READS IS OF BULK AT MOST 1048576: true; the input reads as it did. -/
def fnNoTwiceUptoRow : OpenClaim := { program := "ytgodopiejiajjaa", sum := "bcd28ab6fd51cd62e1872029c3e52f8161b1c8022085edac42303cb2bebe01de", func := "loop.example/g00296/laws.FnNoTwice", spec := "fnNoTwice", unfollowed := true, recurses := true, plainKeys := false, apart := false, narrowed := true }
def FnNoTwiceUptoSaid : Prop := fnNoTwiceUptoRow.holds Try.pinned (OpenSpec.upto fnNoTwiceSpec)

/-- 'laws.FnExactRegistryOk', WHERE WHAT IT READS IS OF BULK AT MOST 1048576: true; the input reads as it did. -/
def fnExactRegistryOkUptoRow : OpenClaim := { program := "ytgodopiejiajjaa", sum := "bcd28ab6fd51cd62e1872029c3e52f8161b1c8022085edac42303cb2bebe01de", func := "loop.example/g00296/laws.FnExactRegistryOk", spec := "fnExactRegistryOk", unfollowed := true, recurses := true, plainKeys := false, apart := false, narrowed := true }
def FnExactRegistryOkUptoSaid : Prop := fnExactRegistryOkUptoRow.holds Try.pinned (OpenSpec.upto fnExactRegistryOkSpec)

/-- 'laws.FnExactOpened', WHERE WHAT IT READS IS OF BULK AT MOST 1048576: true; the input reads as it did. -/
def fnExactOpenedUptoRow : OpenClaim := { program := "ytgodopiejiajjaa", sum := "bcd28ab6fd51cd62e1872029c3e52f8161b1c8022085edac42303cb2bebe01de", func := "loop.example/g00296/laws.FnExactOpened", spec := "fnExactOpened", unfollowed := true, recurses := true, plainKeys := false, apart := false, narrowed := true }
def FnExactOpenedUptoSaid : Prop := fnExactOpenedUptoRow.holds Try.pinned (OpenSpec.upto fnExactOpenedSpec)

/-- 'laws.FnExactHappened', WHERE WHAT IT READS IS OF BULK AT MOST 1048576: true; the input reads as it did. -/
def fnExactHappenedUptoRow : OpenClaim := { program := "ytgodopiejiajjaa", sum := "bcd28ab6fd51cd62e1872029c3e52f8161b1c8022085edac42303cb2bebe01de", func := "loop.example/g00296/laws.FnExactHappened", spec := "fnExactHappened", unfollowed := true, recurses := true, plainKeys := false, apart := false, narrowed := true }
def FnExactHappenedUptoSaid : Prop := fnExactHappenedUptoRow.holds Try.pinned (OpenSpec.upto fnExactHappenedSpec)

/-- 'laws.FnExactLive', WHERE WHAT IT READS IS OF BULK AT MOST 1048576: true; the input reads as it did. -/
def fnExactLiveUptoRow : OpenClaim := { program := "ytgodopiejiajjaa", sum := "bcd28ab6fd51cd62e1872029c3e52f8161b1c8022085edac42303cb2bebe01de", func := "loop.example/g00296/laws.FnExactLive", spec := "fnExactLive", unfollowed := true, recurses := true, plainKeys := false, apart := false, narrowed := true }
def FnExactLiveUptoSaid : Prop := fnExactLiveUptoRow.holds Try.pinned (OpenSpec.upto fnExactLiveSpec)

end Rows
end Go.Proofs.Ytgodopiejiajjaa
