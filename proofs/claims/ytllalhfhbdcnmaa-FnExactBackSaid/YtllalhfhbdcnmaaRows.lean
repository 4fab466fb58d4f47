/-
  No cell of these rows narrows 'for every input' (looked for: loops, veiled, ifaces, maps, wideKeys, modest, calm, conditions, laid).
  DERIVED. THE GIVEN ROWS OF THIS SEAT. 6 by the template 'for every input the law returns true; each argument reads behind the call as it read before'; 0 by the template 'total and deterministic' (their statements: YtllalhfhbdcnmaaTotals.lean).
  GIVEN WITH THE SEED: the statements are not yours to turn. If you find one false, say at which input.
  Laid BY PROGRAM, IN A SANDBOX (cutbox-rows.mjs): the forced cells as the released guide's own fill.sh prints them over the translation a3fb113854444c97… (all of the seat's roots in one cut). By AI agents, Wed Nov 11 2026. No macro, syntax, notation, axiom, sorry.
-/
import Derived.Test.YtllalhfhbdcnmaaChecked
import GoSem.Claim
import GoSem.ClaimJoined
import GoSem.ClaimMapViews
import Derived.JoinedTies
import Derived.KernelRfl
namespace Go.Proofs.Ytllalhfhbdcnmaa
/- THE CELL 'sum', in the pinned program and in every row, IS THE sha256 OF THE DUMP (.gsa) THAT YtllalhfhbdcnmaaProg.lean LOADS. Nothing in Lean hashes anything: it is a label: what it is worth is what the hold of that sum in a sandbox is worth. -/
noncomputable def Try.pinned : Pinned := { name := "ytllalhfhbdcnmaa", sum := "a3fb113854444c97d3919f5e7a1302183fb6bf03ba0a8e3f7e47174a9e02fbeb", checked := Try.checked }
namespace Rows
def none {H : Type} : Left H := { results := [], args := [] }

/-- 'laws.FnExactTunnelOk': WHATEVER THE INPUT: true; the input reads as it did. -/
def fnExactTunnelOkSpec : ChangeSpec := { name := "fnExactTunnelOk", fn := fun _ => fun
  | [d] => { results := [.lit (.bool true)], args := [d] }
  | _ => none }
def fnExactTunnelOkRow : OpenClaim := { program := "ytllalhfhbdcnmaa", sum := "a3fb113854444c97d3919f5e7a1302183fb6bf03ba0a8e3f7e47174a9e02fbeb", func := "loop.example/g00296/laws.FnExactTunnelOk", spec := "fnExactTunnelOk", apart := false }
def FnExactTunnelOkSaid : Prop := fnExactTunnelOkRow.holds Try.pinned (OpenSpec.ofChange fnExactTunnelOkSpec)

/-- ITS FALSE NEIGHBOUR: 'it returns false'. Refute it at one input. -/
def fnExactTunnelOkWrong : ChangeSpec := { name := "fnExactTunnelOk", fn := fun _ => fun
  | [d] => { results := [.lit (.bool false)], args := [d] }
  | _ => none }
def FnExactTunnelOkWrongFalsely : Prop := fnExactTunnelOkRow.holds Try.pinned (OpenSpec.ofChange fnExactTunnelOkWrong)

/-- 'laws.FnExactNewTunnel': WHATEVER THE INPUT: true; the input reads as it did. -/
def fnExactNewTunnelSpec : ChangeSpec := { name := "fnExactNewTunnel", fn := fun _ => fun
  | [d] => { results := [.lit (.bool true)], args := [d] }
  | _ => none }
def fnExactNewTunnelRow : OpenClaim := { program := "ytllalhfhbdcnmaa", sum := "a3fb113854444c97d3919f5e7a1302183fb6bf03ba0a8e3f7e47174a9e02fbeb", func := "loop.example/g00296/laws.FnExactNewTunnel", spec := "fnExactNewTunnel", apart := false }
def FnExactNewTunnelSaid : Prop := fnExactNewTunnelRow.holds Try.pinned (OpenSpec.ofChange fnExactNewTunnelSpec)

/-- ITS FALSE NEIGHBOUR: 'it returns false'. Refute it at one input. -/
def fnExactNewTunnelWrong : ChangeSpec := { name := "fnExactNewTunnel", fn := fun _ => fun
  | [d] => { results := [.lit (.bool false)], args := [d] }
  | _ => none }
def FnExactNewTunnelWrongFalsely : Prop := fnExactNewTunnelRow.holds Try.pinned (OpenSpec.ofChange fnExactNewTunnelWrong)

/-- 'laws.FnExactIn': WHATEVER THE INPUT: true; the input reads as it did. -/
def fnExactInSpec : ChangeSpec := { name := "fnExactIn", fn := fun _ => fun
  | [d1, d2, d3] => { results := [.lit (.bool true)], args := [d1, d2, d3] }
  | _ => none }
def fnExactInRow : OpenClaim := { program := "ytllalhfhbdcnmaa", sum := "a3fb113854444c97d3919f5e7a1302183fb6bf03ba0a8e3f7e47174a9e02fbeb", func := "loop.example/g00296/laws.FnExactIn", spec := "fnExactIn", apart := false }
def FnExactInSaid : Prop := fnExactInRow.holds Try.pinned (OpenSpec.ofChange fnExactInSpec)

/-- ITS FALSE NEIGHBOUR: 'it returns false'. Refute it at one input. -/
def fnExactInWrong : ChangeSpec := { name := "fnExactIn", fn := fun _ => fun
  | [d1, d2, d3] => { results := [.lit (.bool false)], args := [d1, d2, d3] }
  | _ => none }
def FnExactInWrongFalsely : Prop := fnExactInRow.holds Try.pinned (OpenSpec.ofChange fnExactInWrong)

/-- 'laws.FnExactOut': WHATEVER THE INPUT: true; the input reads as it did. -/
def fnExactOutSpec : ChangeSpec := { name := "fnExactOut", fn := fun _ => fun
  | [d1, d2] => { results := [.lit (.bool true)], args := [d1, d2] }
  | _ => none }
def fnExactOutRow : OpenClaim := { program := "ytllalhfhbdcnmaa", sum := "a3fb113854444c97d3919f5e7a1302183fb6bf03ba0a8e3f7e47174a9e02fbeb", func := "loop.example/g00296/laws.FnExactOut", spec := "fnExactOut", apart := false }
def FnExactOutSaid : Prop := fnExactOutRow.holds Try.pinned (OpenSpec.ofChange fnExactOutSpec)

/-- ITS FALSE NEIGHBOUR: 'it returns false'. Refute it at one input. -/
def fnExactOutWrong : ChangeSpec := { name := "fnExactOut", fn := fun _ => fun
  | [d1, d2] => { results := [.lit (.bool false)], args := [d1, d2] }
  | _ => none }
def FnExactOutWrongFalsely : Prop := fnExactOutRow.holds Try.pinned (OpenSpec.ofChange fnExactOutWrong)

/-- 'laws.FnExactBack': WHATEVER THE INPUT: true; the input reads as it did. -/
def fnExactBackSpec : ChangeSpec := { name := "fnExactBack", fn := fun _ => fun
  | [d1, d2, d3] => { results := [.lit (.bool true)], args := [d1, d2, d3] }
  | _ => none }
def fnExactBackRow : OpenClaim := { program := "ytllalhfhbdcnmaa", sum := "a3fb113854444c97d3919f5e7a1302183fb6bf03ba0a8e3f7e47174a9e02fbeb", func := "loop.example/g00296/laws.FnExactBack", spec := "fnExactBack", apart := false }
def FnExactBackSaid : Prop := fnExactBackRow.holds Try.pinned (OpenSpec.ofChange fnExactBackSpec)

/-- ITS FALSE NEIGHBOUR: 'it returns false'. Refute it at one input. -/
def fnExactBackWrong : ChangeSpec := { name := "fnExactBack", fn := fun _ => fun
  | [d1, d2, d3] => { results := [.lit (.bool false)], args := [d1, d2, d3] }
  | _ => none }
def FnExactBackWrongFalsely : Prop := fnExactBackRow.holds Try.pinned (OpenSpec.ofChange fnExactBackWrong)

/-- 'laws.FnExactTorn': WHATEVER THE INPUT: true; the input reads as it did. -/
def fnExactTornSpec : ChangeSpec := { name := "fnExactTorn", fn := fun _ => fun
  | [d] => { results := [.lit (.bool true)], args := [d] }
  | _ => none }
def fnExactTornRow : OpenClaim := { program := "ytllalhfhbdcnmaa", sum := "a3fb113854444c97d3919f5e7a1302183fb6bf03ba0a8e3f7e47174a9e02fbeb", func := "loop.example/g00296/laws.FnExactTorn", spec := "fnExactTorn", apart := false }
def FnExactTornSaid : Prop := fnExactTornRow.holds Try.pinned (OpenSpec.ofChange fnExactTornSpec)

/-- ITS FALSE NEIGHBOUR: 'it returns false'. Refute it at one input. -/
def fnExactTornWrong : ChangeSpec := { name := "fnExactTorn", fn := fun _ => fun
  | [d] => { results := [.lit (.bool false)], args := [d] }
  | _ => none }
def FnExactTornWrongFalsely : Prop := fnExactTornRow.holds Try.pinned (OpenSpec.ofChange fnExactTornWrong)

/- THE SECOND FORM. 'bulk': how many values and letters a reading holds, each counted each time it is reached (what is shared counts as often as it is met; a slice's spare places count too). A statement '..UptoSaid' is the law's where the arguments, and the package variables that the reading takes, are together of bulk at most 1048576: NARROWER than '..Said'. Prove '..Said' where nothing that the law and all that it calls make is longer than what came in: it says more and counts as full. Else prove '..UptoSaid'. A law counts once. -/
mutual
def uptoBulk {H : Type} : DataW H → Nat
  | .lit (.string bytes) => bytes.length + 1
  | .lit _ => 1
  | .nil => 1
  | .ptr d => uptoBulk d + 1
  | .slice elems spare => uptoBulkAll elems + uptoBulkAll spare + 1
  | .agg parts => uptoBulkAll parts + 1
  | .iface _ d => uptoBulk d + 1
  | .map entries => uptoBulkEntries entries + 1
  | .held _ => 1
def uptoBulkAll {H : Type} : List (DataW H) → Nat
  | [] => 0
  | d :: r => uptoBulk d + uptoBulkAll r
def uptoBulkEntries {H : Type} : List (Lit × DataW H) → Nat
  | [] => 0
  | x :: r => uptoBulkEntry x + uptoBulkEntries r
def uptoBulkEntry {H : Type} : Lit × DataW H → Nat
  | (.string bytes, d) => bytes.length + uptoBulk d + 1
  | (_, d) => uptoBulk d + 1
 end
def uptoSmall : (H : Type) → List (DataW H) → Bool := fun _ ds => decide (uptoBulkAll ds ≤ 1048576)
def OpenSpec.upto (s : _root_.Go.ChangeSpec) : _root_.Go.OpenSpec := { _root_.Go.OpenSpec.ofChange s with cond := some uptoSmall }

/-- 'laws.FnExactTunnelOk', WHERE WHAT IT READS IS OF BULK AT MOST 1048576: true; the input reads as it did. -/
def fnExactTunnelOkUptoRow : OpenClaim := { program := "ytllalhfhbdcnmaa", sum := "a3fb113854444c97d3919f5e7a1302183fb6bf03ba0a8e3f7e47174a9e02fbeb", func := "loop.example/g00296/laws.FnExactTunnelOk", spec := "fnExactTunnelOk", apart := false, narrowed := true }
def FnExactTunnelOkUptoSaid : Prop := fnExactTunnelOkUptoRow.holds Try.pinned (OpenSpec.upto fnExactTunnelOkSpec)

/-- 'laws.FnExactNewTunnel', WHERE WHAT IT READS IS OF BULK AT MOST 1048576: true; the input reads as it did. -/
def fnExactNewTunnelUptoRow : OpenClaim := { program := "ytllalhfhbdcnmaa", sum := "a3fb113854444c97d3919f5e7a1302183fb6bf03ba0a8e3f7e47174a9e02fbeb", func := "loop.example/g00296/laws.FnExactNewTunnel", spec := "fnExactNewTunnel", apart := false, narrowed := true }
def FnExactNewTunnelUptoSaid : Prop := fnExactNewTunnelUptoRow.holds Try.pinned (OpenSpec.upto fnExactNewTunnelSpec)

/-- 'laws.FnExactIn', WHERE WHAT IT READS IS OF BULK AT MOST 1048576: true; the input reads as it did. -/
def fnExactInUptoRow : OpenClaim := { program := "ytllalhfhbdcnmaa", sum := "a3fb113854444c97d3919f5e7a1302183fb6bf03ba0a8e3f7e47174a9e02fbeb", func := "loop.example/g00296/laws.FnExactIn", spec := "fnExactIn", apart := false, narrowed := true }
def FnExactInUptoSaid : Prop := fnExactInUptoRow.holds Try.pinned (OpenSpec.upto fnExactInSpec)

/-- 'laws.FnExactOut', WHERE WHAT IT READS IS OF BULK AT MOST 1048576: true; the input reads as it did. -/
def fnExactOutUptoRow : OpenClaim := { program := "ytllalhfhbdcnmaa", sum := "a3fb113854444c97d3919f5e7a1302183fb6bf03ba0a8e3f7e47174a9e02fbeb", func := "loop.example/g00296/laws.FnExactOut", spec := "fnExactOut", apart := false, narrowed := true }
def FnExactOutUptoSaid : Prop := fnExactOutUptoRow.holds Try.pinned (OpenSpec.upto fnExactOutSpec)

/-- 'laws.FnExactBack', WHERE WHAT IT READS IS OF BULK AT MOST 1048576: true; the input reads as it did. -/
def fnExactBackUptoRow : OpenClaim := { program := "ytllalhfhbdcnmaa", sum := "a3fb113854444c97d3919f5e7a1302183fb6bf03ba0a8e3f7e47174a9e02fbeb", func := "loop.example/g00296/laws.FnExactBack", spec := "fnExactBack", apart := false, narrowed := true }
def FnExactBackUptoSaid : Prop := fnExactBackUptoRow.holds Try.pinned (OpenSpec.upto fnExactBackSpec)

/-- 'laws.FnExactTorn', WHERE WHAT IT READS IS OF BULK AT MOST 1048576: true; the input reads as it did. -/
def fnExactTornUptoRow : OpenClaim := { program := "ytllalhfhbdcnmaa", sum := "a3fb113854444c97d3919f5e7a1302183fb6bf03ba0a8e3f7e47174a9e02fbeb", func := "loop.example/g00296/laws.FnExactTorn", spec := "fnExactTorn", apart := false, narrowed := true }
def FnExactTornUptoSaid : Prop := fnExactTornUptoRow.holds Try.pinned (OpenSpec.upto fnExactTornSpec)

end Rows
end Go.Proofs.Ytllalhfhbdcnmaa
