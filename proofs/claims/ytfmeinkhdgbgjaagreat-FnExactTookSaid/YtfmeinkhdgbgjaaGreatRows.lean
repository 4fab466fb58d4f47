/-
  No cell of these rows narrows 'for every input' (looked for: loops, veiled, ifaces, maps, wideKeys, modest, calm, conditions, laid).
  DERIVED. THE GIVEN ROWS OF THIS SEAT. 4 by the template 'for every input the law returns true; each argument reads behind the call as it read before'; 0 by the template 'total and deterministic' (their statements: YtfmeinkhdgbgjaaGreatTotals.lean).
  GIVEN WITH THE SEED: the statements are not yours to turn. If you find one false, say at which input.
  Laid BY PROGRAM, IN A SANDBOX (cutbox-rows.mjs): the forced cells as the released guide's own fill.sh prints them over the translation 70e52a77780a6576… (all of the seat's roots in one cut). By AI agents, Wed Nov 11 2026. No macro, syntax, notation, axiom, sorry.
-/
import Derived.Test.YtfmeinkhdgbgjaaGreatChecked
import GoSem.Claim
import GoSem.ClaimJoined
import GoSem.ClaimMapViews
import Derived.JoinedTies
import Derived.KernelRfl
namespace Go.Proofs.YtfmeinkhdgbgjaaGreat
/- THE CELL 'sum', in the pinned program and in every row, IS THE sha256 OF THE DUMP (.gsa) THAT YtfmeinkhdgbgjaaGreatProg.lean LOADS. Nothing in Lean hashes anything: it is a label: what it is worth is what the hold of that sum in a sandbox is worth. -/
noncomputable def Tryz.pinned : Pinned := { name := "ytfmeinkhdgbgjaagreat", sum := "70e52a77780a6576d7090040abc21d9ec2852137973c256c6cea83be347a64b2", checked := Tryz.checked }
namespace Rows
def none {H : Type} : Left H := { results := [], args := [] }

/-- 'laws.FnConns': WHATEVER THE INPUT: true; the input reads as it did. -/
def fnConnsSpec : ChangeSpec := { name := "fnConns", fn := fun _ => fun
  | [d] => { results := [.lit (.bool true)], args := [d] }
  | _ => none }
def fnConnsRow : OpenClaim := { program := "ytfmeinkhdgbgjaagreat", sum := "70e52a77780a6576d7090040abc21d9ec2852137973c256c6cea83be347a64b2", func := "loop.example/g00296/laws.FnConns", spec := "fnConns", inPlace := ["internal/bytealg.IndexByteString"], unfollowed := true, recurses := true, plainKeys := false, apart := false }
def FnConnsSaid : Prop := fnConnsRow.holds Tryz.pinned (OpenSpec.ofChange fnConnsSpec)

/-- ITS FALSE NEIGHBOUR: 'it returns false'. Refute it at one input. -/
def fnConnsWrong : ChangeSpec := { name := "fnConns", fn := fun _ => fun
  | [d] => { results := [.lit (.bool false)], args := [d] }
  | _ => none }
def FnConnsWrongFalsely : Prop := fnConnsRow.holds Tryz.pinned (OpenSpec.ofChange fnConnsWrong)

/-- 'laws.FnSends': WHATEVER THE INPUT: true; the input reads as it did. -/
def fnSendsSpec : ChangeSpec := { name := "fnSends", fn := fun _ => fun
  | [d] => { results := [.lit (.bool true)], args := [d] }
  | _ => none }
def fnSendsRow : OpenClaim := { program := "ytfmeinkhdgbgjaagreat", sum := "70e52a77780a6576d7090040abc21d9ec2852137973c256c6cea83be347a64b2", func := "loop.example/g00296/laws.FnSends", spec := "fnSends", unfollowed := true, recurses := true, plainKeys := false, apart := false }
def FnSendsSaid : Prop := fnSendsRow.holds Tryz.pinned (OpenSpec.ofChange fnSendsSpec)

/-- ITS FALSE NEIGHBOUR: 'it returns false'. Refute it at one input. -/
def fnSendsWrong : ChangeSpec := { name := "fnSends", fn := fun _ => fun
  | [d] => { results := [.lit (.bool false)], args := [d] }
  | _ => none }
def FnSendsWrongFalsely : Prop := fnSendsRow.holds Tryz.pinned (OpenSpec.ofChange fnSendsWrong)

/-- 'laws.FnExactTook': WHATEVER THE INPUT: true; the input reads as it did. -/
def fnExactTookSpec : ChangeSpec := { name := "fnExactTook", fn := fun _ => fun
  | [d1, d2, d3] => { results := [.lit (.bool true)], args := [d1, d2, d3] }
  | _ => none }
def fnExactTookRow : OpenClaim := { program := "ytfmeinkhdgbgjaagreat", sum := "70e52a77780a6576d7090040abc21d9ec2852137973c256c6cea83be347a64b2", func := "loop.example/g00296/laws.FnExactTook", spec := "fnExactTook", unfollowed := true, recurses := true, plainKeys := false, apart := false }
def FnExactTookSaid : Prop := fnExactTookRow.holds Tryz.pinned (OpenSpec.ofChange fnExactTookSpec)

/-- ITS FALSE NEIGHBOUR: 'it returns false'. Refute it at one input. -/
def fnExactTookWrong : ChangeSpec := { name := "fnExactTook", fn := fun _ => fun
  | [d1, d2, d3] => { results := [.lit (.bool false)], args := [d1, d2, d3] }
  | _ => none }
def FnExactTookWrongFalsely : Prop := fnExactTookRow.holds Tryz.pinned (OpenSpec.ofChange fnExactTookWrong)

/-- 'laws.FnExactGiven': WHATEVER THE INPUT: true; the input reads as it did. -/
def fnExactGivenSpec : ChangeSpec := { name := "fnExactGiven", fn := fun _ => fun
  | [d1, d2, d3, d4] => { results := [.lit (.bool true)], args := [d1, d2, d3, d4] }
  | _ => none }
def fnExactGivenRow : OpenClaim := { program := "ytfmeinkhdgbgjaagreat", sum := "70e52a77780a6576d7090040abc21d9ec2852137973c256c6cea83be347a64b2", func := "loop.example/g00296/laws.FnExactGiven", spec := "fnExactGiven", unfollowed := true, recurses := true, plainKeys := false, apart := false }
def FnExactGivenSaid : Prop := fnExactGivenRow.holds Tryz.pinned (OpenSpec.ofChange fnExactGivenSpec)

/-- ITS FALSE NEIGHBOUR: 'it returns false'. Refute it at one input. -/
def fnExactGivenWrong : ChangeSpec := { name := "fnExactGiven", fn := fun _ => fun
  | [d1, d2, d3, d4] => { results := [.lit (.bool false)], args := [d1, d2, d3, d4] }
  | _ => none }
def FnExactGivenWrongFalsely : Prop := fnExactGivenRow.holds Tryz.pinned (OpenSpec.ofChange fnExactGivenWrong)

/- THE SECOND FORM. 'bulk': how many values and letters a reading holds, each counted each time it is reached (what is shared counts as often as it is met; a slice's spare places count too). A statement '..UptoSaid' is the law's where the arguments, and the package variables that the reading takes, are together of bulk at most 1048576: NARROWER than '..Said'. Prove '..Said' where nothing that the law and all that it calls make is longer than what came in: it says more and counts as full. Else prove '..UptoSaid'. A law counts once. -/
mutual
def uptoBulk {H : Type} : DataW H → Nat
  | .lit (.string bytes) => bytes.length + 1
  | .lit _ => 1
  | .nil => 1
  | .ptr d => uptoBulk d + 1
  | .slice elems spare => uptoBulkAll elems + uptoBulkAll spare + 1
  | .agg parts => uptoBulkAll parts + 1
  | .iface _ d => uptoBulk d + 1
  | .map entries => uptoBulkEntries entries + 1
  | .held _ => 1
def uptoBulkAll {H : Type} : List (DataW H) → Nat
  | [] => 0
  | d :: r => uptoBulk d + uptoBulkAll r
def uptoBulkEntries {H : Type} : List (Lit × DataW H) → Nat
  | [] => 0
  | x :: r => uptoBulkEntry x + uptoBulkEntries r
def uptoBulkEntry {H : Type} : Lit × DataW H → Nat
  | (.string bytes, d) => bytes.length + uptoBulk d + 1
  | (_, d) => uptoBulk d + 1
 end
def uptoSmall : (H : Type) → List (DataW H) → Bool := fun _ ds => decide (uptoBulkAll ds ≤ 1048576)
def OpenSpec.upto (s : _root_.Go.ChangeSpec) : _root_.Go.OpenSpec := { _root_.Go.OpenSpec.ofChange s with cond := some uptoSmall }

/-- 'laws.FnConns', WHERE WHAT IT READS IS OF BULK AT MOST 1048576: true; the input reads as it did. -/
def fnConnsUptoRow : OpenClaim := { program := "ytfmeinkhdgbgjaagreat", sum := "70e52a77780a6576d7090040abc21d9ec2852137973c256c6cea83be347a64b2", func := "loop.example/g00296/laws.FnConns", spec := "fnConns", inPlace := ["internal/bytealg.IndexByteString"], unfollowed := true, recurses := true, plainKeys := false, apart := false, narrowed := true }
def FnConnsUptoSaid : Prop := fnConnsUptoRow.holds Tryz.pinned (OpenSpec.upto fnConnsSpec)

/-- 'laws.FnSends', WHERE WHAT IT READS IS OF BULK AT MOST 1048576: true; the input reads as it did. -/
def fnSendsUptoRow : OpenClaim := { program := "ytfmeinkhdgbgjaagreat", sum := "70e52a77780a6576d7090040abc21d9ec2852137973c256c6cea83be347a64b2", func := "loop.example/g00296/laws.FnSends", spec := "fnSends", unfollowed := true, recurses := true, plainKeys := false, apart := false, narrowed := true }
def FnSendsUptoSaid : Prop := fnSendsUptoRow.holds Tryz.pinned (OpenSpec.upto fnSendsSpec)

/-- 'laws.FnExactTook', WHERE WHAT IT READS IS OF BULK AT MOST 1048576: true; the input reads as it did. -/
def fnExactTookUptoRow : OpenClaim := { program := "ytfmeinkhdgbgjaagreat", sum := "70e52a77780a6576d7090040abc21d9ec2852137973c256c6cea83be347a64b2", func := "loop.example/g00296/laws.FnExactTook", spec := "fnExactTook", unfollowed := true, recurses := true, plainKeys := false, apart := false, narrowed := true }
def FnExactTookUptoSaid : Prop := fnExactTookUptoRow.holds Tryz.pinned (OpenSpec.upto fnExactTookSpec)

/-- 'laws.FnExactGiven', WHERE WHAT IT READS IS OF BULK AT MOST 1048576: true; the input reads as it did. -/
def fnExactGivenUptoRow : OpenClaim := { program := "ytfmeinkhdgbgjaagreat", sum := "70e52a77780a6576d7090040abc21d9ec2852137973c256c6cea83be347a64b2", func := "loop.example/g00296/laws.FnExactGiven", spec := "fnExactGiven", unfollowed := true, recurses := true, plainKeys := false, apart := false, narrowed := true }
def FnExactGivenUptoSaid : Prop := fnExactGivenUptoRow.holds Tryz.pinned (OpenSpec.upto fnExactGivenSpec)

end Rows
end Go.Proofs.YtfmeinkhdgbgjaaGreat
