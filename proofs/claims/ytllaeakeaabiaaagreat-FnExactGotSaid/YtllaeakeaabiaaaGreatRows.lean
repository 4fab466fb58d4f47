/-
  No cell of these rows narrows 'for every input' (looked for: loops, veiled, ifaces, maps, wideKeys, modest, calm, conditions, laid).
  DERIVED. THE GIVEN ROWS OF THIS SEAT. 2 by the template 'for every input the law returns true; each argument reads behind the call as it read before'; 0 by the template 'total and deterministic' (their statements: YtllaeakeaabiaaaGreatTotals.lean).
  GIVEN WITH THE SEED: the statements are not yours to turn. If you find one false, say at which input.
  Laid BY PROGRAM, IN A SANDBOX (cutbox-rows.mjs): the forced cells as the released guide's own fill.sh prints them over the translation 35df4e47dcbf5810… (all of the seat's roots in one cut). By AI agents, Wed Nov 11 2026. No macro, syntax, notation, axiom, sorry.
-/
import Derived.Test.YtllaeakeaabiaaaGreatChecked
import GoSem.Claim
import GoSem.ClaimJoined
import GoSem.ClaimMapViews
import Derived.JoinedTies
import Derived.KernelRfl
namespace Go.Proofs.YtllaeakeaabiaaaGreat
/- THE CELL 'sum', in the pinned program and in every row, IS THE sha256 OF THE DUMP (.gsa) THAT YtllaeakeaabiaaaGreatProg.lean LOADS. Nothing in Lean hashes anything: it is a label: what it is worth is what the hold of that sum in a sandbox is worth. -/
noncomputable def Tryz.pinned : Pinned := { name := "ytllaeakeaabiaaagreat", sum := "35df4e47dcbf58108ab9e6f13b167c9908884eb87577f3f80d19590c883173d2", checked := Tryz.checked }
namespace Rows
def none {H : Type} : Left H := { results := [], args := [] }

/-- 'laws.FnExactGot': WHATEVER THE INPUT: true; the input reads as it did. -/
def fnExactGotSpec : ChangeSpec := { name := "fnExactGot", fn := fun _ => fun
  | [d1, d2] => { results := [.lit (.bool true)], args := [d1, d2] }
  | _ => none }
def fnExactGotRow : OpenClaim := { program := "ytllaeakeaabiaaagreat", sum := "35df4e47dcbf58108ab9e6f13b167c9908884eb87577f3f80d19590c883173d2", func := "loop.example/g00296/laws.FnExactGot", spec := "fnExactGot", inPlace := ["internal/bytealg.IndexByteString"], unfollowed := true, recurses := true, plainKeys := false, apart := false }
def FnExactGotSaid : Prop := fnExactGotRow.holds Tryz.pinned (OpenSpec.ofChange fnExactGotSpec)

/-- ITS FALSE NEIGHBOUR: 'it returns false'. Refute it at one input. -/
def fnExactGotWrong : ChangeSpec := { name := "fnExactGot", fn := fun _ => fun
  | [d1, d2] => { results := [.lit (.bool false)], args := [d1, d2] }
  | _ => none }
def FnExactGotWrongFalsely : Prop := fnExactGotRow.holds Tryz.pinned (OpenSpec.ofChange fnExactGotWrong)

/-- 'laws.FnExactFlushed': WHATEVER THE INPUT: true; the input reads as it did. -/
def fnExactFlushedSpec : ChangeSpec := { name := "fnExactFlushed", fn := fun _ => fun
  | [d] => { results := [.lit (.bool true)], args := [d] }
  | _ => none }
def fnExactFlushedRow : OpenClaim := { program := "ytllaeakeaabiaaagreat", sum := "35df4e47dcbf58108ab9e6f13b167c9908884eb87577f3f80d19590c883173d2", func := "loop.example/g00296/laws.FnExactFlushed", spec := "fnExactFlushed", unfollowed := true, recurses := true, plainKeys := false, apart := false }
def FnExactFlushedSaid : Prop := fnExactFlushedRow.holds Tryz.pinned (OpenSpec.ofChange fnExactFlushedSpec)

/-- ITS FALSE NEIGHBOUR: 'it returns false'. Refute it at one input. -/
def fnExactFlushedWrong : ChangeSpec := { name := "fnExactFlushed", fn := fun _ => fun
  | [d] => { results := [.lit (.bool false)], args := [d] }
  | _ => none }
def FnExactFlushedWrongFalsely : Prop := fnExactFlushedRow.holds Tryz.pinned (OpenSpec.ofChange fnExactFlushedWrong)

/- THE SECOND FORM. 'bulk': how many values and letters a reading holds, each counted each time it is reached (what is shared counts as often as it is met; a slice's spare places count too). A statement '..UptoSaid' is the law's where the arguments, and the package variables that the reading takes, are together of bulk at most 1048576: NARROWER than '..Said'. Prove '..Said' where nothing that the law and all that it calls make is longer than what came in: it says more and counts as full. Else prove '..UptoSaid'. A law counts once. -/
mutual
def uptoBulk {H : Type} : DataW H → Nat
  | .lit (.string bytes) => bytes.length + 1
  | .lit _ => 1
  | .nil => 1
  | .ptr d => uptoBulk d + 1
  | .slice elems spare => uptoBulkAll elems + uptoBulkAll spare + 1
  | .agg parts => uptoBulkAll parts + 1
  | .iface _ d => uptoBulk d + 1
  | .map entries => uptoBulkEntries entries + 1
  | .held _ => 1
def uptoBulkAll {H : Type} : List (DataW H) → Nat
  | [] => 0
  | d :: r => uptoBulk d + uptoBulkAll r
def uptoBulkEntries {H : Type} : List (Lit × DataW H) → Nat
  | [] => 0
  | x :: r => uptoBulkEntry x + uptoBulkEntries r
def uptoBulkEntry {H : Type} : Lit × DataW H → Nat
  | (.string bytes, d) => bytes.length + uptoBulk d + 1
  | (_, d) => uptoBulk d + 1
 end
def uptoSmall : (H : Type) → List (DataW H) → Bool := fun _ ds => decide (uptoBulkAll ds ≤ 1048576)
def OpenSpec.upto (s : _root_.Go.ChangeSpec) : _root_.Go.OpenSpec := { _root_.Go.OpenSpec.ofChange s with cond := some uptoSmall }

/-- 'laws.FnExactGot', WHERE WHAT IT READS IS OF BULK AT MOST 1048576: true; the input reads as it did. -/
def fnExactGotUptoRow : OpenClaim := { program := "ytllaeakeaabiaaagreat", sum := "35df4e47dcbf58108ab9e6f13b167c9908884eb87577f3f80d19590c883173d2", func := "loop.example/g00296/laws.FnExactGot", spec := "fnExactGot", inPlace := ["internal/bytealg.IndexByteString"], unfollowed := true, recurses := true, plainKeys := false, apart := false, narrowed := true }
def FnExactGotUptoSaid : Prop := fnExactGotUptoRow.holds Tryz.pinned (OpenSpec.upto fnExactGotSpec)

/-- 'laws.FnExactFlushed', WHERE WHAT IT READS IS OF BULK AT MOST 1048576: true; the input reads as it did. -/
def fnExactFlushedUptoRow : OpenClaim := { program := "ytllaeakeaabiaaagreat", sum := "35df4e47dcbf58108ab9e6f13b167c9908884eb87577f3f80d19590c883173d2", func := "loop.example/g00296/laws.FnExactFlushed", spec := "fnExactFlushed", unfollowed := true, recurses := true, plainKeys := false, apart := false, narrowed := true }
def FnExactFlushedUptoSaid : Prop := fnExactFlushedUptoRow.holds Tryz.pinned (OpenSpec.upto fnExactFlushedSpec)

end Rows
end Go.Proofs.YtllaeakeaabiaaaGreat
