/-
  NARROWER THAN 'FOR EVERY INPUT', by the rows' own cells (each row's printed sentence says how): FnExactOwed: ifaces, laid · FnExactGrants: ifaces, laid.
  DERIVED. THE GIVEN ROWS OF THIS SEAT. 2 by the template 'for every input the law returns true; each argument reads behind the call as it read before'; 0 by the template 'total and deterministic' (their statements: YtbnfdakaloeocaaDoorTotals.lean).
  GIVEN WITH THE SEED: the statements are not yours to turn. If you find one false, say at which input.
  Laid BY PROGRAM, IN A SANDBOX (cutbox-rows.mjs): the forced cells as the released guide's own fill.sh prints them over the translation d693a9f5db478fa7… (all of the seat's roots in one cut). By AI agents, Wed Nov 11 2026. No macro, syntax, notation, axiom, sorry.
-/
import Derived.Test.YtbnfdakaloeocaaDoorChecked
import GoSem.Claim
import GoSem.ClaimJoined
import GoSem.ClaimMapViews
import Derived.JoinedTies
import Derived.KernelRfl
namespace Go.Proofs.YtbnfdakaloeocaaDoor
/- THE CELL 'sum', in the pinned program and in every row, IS THE sha256 OF THE DUMP (.gsa) THAT YtbnfdakaloeocaaDoorProg.lean LOADS. Nothing in Lean hashes anything: it is a label: what it is worth is what the hold of that sum in a sandbox is worth. -/
noncomputable def Tryd.pinned : Pinned := { name := "ytbnfdakaloeocaadoor", sum := "d693a9f5db478fa7108c1daabfa6243ff203aee14d36902aeced5d3280c0b688", checked := Tryd.checked }
namespace Rows
def none {H : Type} : Left H := { results := [], args := [] }

/- WHAT THE LISTED PACKAGE-LEVEL VARIABLES READ AS WHEN THE CALL BEGINS. Each datum BY PROGRAM (the guide's laid-datum.mjs) off the statement by which the dump's own 'gosem.cut.vars' lays the variable. In a bare row this is a premise. The card (YtbnfdakaloeocaaDoorCards.lean) ties it to the program's text. -/
def laid_errors_errorType {H : Type} : DataW H := .iface "internal/reflectlite.rtype" (.agg [.ptr (.lit (.string [101, 114, 114, 111, 114]))])
def laid_loop_example_g00296_impl_errNoFrame {H : Type} : DataW H := .iface "*errors.errorString" (.ptr (.agg [.lit (.string [110, 111, 32, 114, 105, 103, 104, 116, 32, 102, 114, 97, 109, 101, 32, 98, 101, 103, 105, 110, 115, 32, 115, 111])]))
def laid_loop_example_g00296_impl_errNotYet {H : Type} : DataW H := .iface "*errors.errorString" (.ptr (.agg [.lit (.string [116, 104, 101, 32, 102, 114, 97, 109, 101, 32, 105, 115, 32, 110, 111, 116, 32, 119, 104, 111, 108, 101, 32, 121, 101, 116])]))

/-- 'laws.FnExactOwed': WHATEVER THE INPUT: true; the input reads as it did. -/
def fnExactOwedSpec : ChangeSpec := { name := "fnExactOwed", vars := ["loop.example/g00296/impl.errNoFrame", "loop.example/g00296/impl.errNotYet"], fn := fun _ => fun
  | [d1, d2, g1, g2] => { results := [.lit (.bool true)], args := [d1, d2], vars := [g1, g2] }
  | _ => none }
def fnExactOwedRow : OpenClaim := { program := "ytbnfdakaloeocaadoor", sum := "d693a9f5db478fa7108c1daabfa6243ff203aee14d36902aeced5d3280c0b688", func := "loop.example/g00296/laws.FnExactOwed", spec := "fnExactOwed", inPlace := ["internal/reflectlite.ValueOf", "(internal/reflectlite.Value).Type", "(internal/reflectlite.Value).IsNil", "internal/reflectlite.TypeOf", "(internal/reflectlite.Value).Elem", "(internal/reflectlite.Value).Set"], unfollowed := true, recurses := true, named := ["loop.example/g00296/impl.errNoFrame", "loop.example/g00296/impl.errNotYet", "errors.errorType"], ifaces := true, apart := false, laid := [("errors.errorType", laid_errors_errorType), ("loop.example/g00296/impl.errNoFrame", laid_loop_example_g00296_impl_errNoFrame), ("loop.example/g00296/impl.errNotYet", laid_loop_example_g00296_impl_errNotYet)] }
def FnExactOwedSaid : Prop := fnExactOwedRow.holds Tryd.pinned (OpenSpec.ofChange fnExactOwedSpec)

/-- ITS FALSE NEIGHBOUR: 'it returns false'. Refute it at one input. -/
def fnExactOwedWrong : ChangeSpec := { name := "fnExactOwed", vars := ["loop.example/g00296/impl.errNoFrame", "loop.example/g00296/impl.errNotYet"], fn := fun _ => fun
  | [d1, d2, g1, g2] => { results := [.lit (.bool false)], args := [d1, d2], vars := [g1, g2] }
  | _ => none }
def FnExactOwedWrongFalsely : Prop := fnExactOwedRow.holds Tryd.pinned (OpenSpec.ofChange fnExactOwedWrong)

/-- 'laws.FnExactGrants': WHATEVER THE INPUT: true; the input reads as it did. -/
def fnExactGrantsSpec : ChangeSpec := { name := "fnExactGrants", vars := ["loop.example/g00296/impl.errNoFrame", "loop.example/g00296/impl.errNotYet"], fn := fun _ => fun
  | [d1, d2, g1, g2] => { results := [.lit (.bool true)], args := [d1, d2], vars := [g1, g2] }
  | _ => none }
def fnExactGrantsRow : OpenClaim := { program := "ytbnfdakaloeocaadoor", sum := "d693a9f5db478fa7108c1daabfa6243ff203aee14d36902aeced5d3280c0b688", func := "loop.example/g00296/laws.FnExactGrants", spec := "fnExactGrants", inPlace := ["internal/reflectlite.ValueOf", "(internal/reflectlite.Value).Type", "(internal/reflectlite.Value).IsNil", "internal/reflectlite.TypeOf", "(internal/reflectlite.Value).Elem", "(internal/reflectlite.Value).Set"], unfollowed := true, recurses := true, named := ["loop.example/g00296/impl.errNoFrame", "loop.example/g00296/impl.errNotYet", "errors.errorType"], ifaces := true, apart := false, laid := [("errors.errorType", laid_errors_errorType), ("loop.example/g00296/impl.errNoFrame", laid_loop_example_g00296_impl_errNoFrame), ("loop.example/g00296/impl.errNotYet", laid_loop_example_g00296_impl_errNotYet)] }
def FnExactGrantsSaid : Prop := fnExactGrantsRow.holds Tryd.pinned (OpenSpec.ofChange fnExactGrantsSpec)

/-- ITS FALSE NEIGHBOUR: 'it returns false'. Refute it at one input. -/
def fnExactGrantsWrong : ChangeSpec := { name := "fnExactGrants", vars := ["loop.example/g00296/impl.errNoFrame", "loop.example/g00296/impl.errNotYet"], fn := fun _ => fun
  | [d1, d2, g1, g2] => { results := [.lit (.bool false)], args := [d1, d2], vars := [g1, g2] }
  | _ => none }
def FnExactGrantsWrongFalsely : Prop := fnExactGrantsRow.holds Tryd.pinned (OpenSpec.ofChange fnExactGrantsWrong)

/- THE SECOND FORM. 'bulk': how many values and letters a reading holds, each counted each time it is reached (what is shared counts as often as it is met; a slice's spare places count too). A statement '..UptoSaid' is the law's where the arguments, and the package variables that the reading takes, are together of bulk at most 1048576: NARROWER than '..Said'. Prove '..Said' where nothing that the law and all that it calls make is longer than what came in: it says more and counts as full. Else prove '..UptoSaid'. A law counts once. -/
mutual
def uptoBulk {H : Type} : DataW H → Nat
  | .lit (.string bytes) => bytes.length + 1
  | .lit _ => 1
  | .nil => 1
  | .ptr d => uptoBulk d + 1
  | .slice elems spare => uptoBulkAll elems + uptoBulkAll spare + 1
  | .agg parts => uptoBulkAll parts + 1
  | .iface _ d => uptoBulk d + 1
  | .map entries => uptoBulkEntries entries + 1
  | .held _ => 1
def uptoBulkAll {H : Type} : List (DataW H) → Nat
  | [] => 0
  | d :: r => uptoBulk d + uptoBulkAll r
def uptoBulkEntries {H : Type} : List (Lit × DataW H) → Nat
  | [] => 0
  | x :: r => uptoBulkEntry x + uptoBulkEntries r
def uptoBulkEntry {H : Type} : Lit × DataW H → Nat
  | (.string bytes, d) => bytes.length + uptoBulk d + 1
  | (_, d) => uptoBulk d + 1
 end
def uptoSmall : (H : Type) → List (DataW H) → Bool := fun _ ds => decide (uptoBulkAll ds ≤ 1048576)
def OpenSpec.upto (s : _root_.Go.ChangeSpec) : _root_.Go.OpenSpec := { _root_.Go.OpenSpec.ofChange s with cond := some uptoSmall }

/-- 'laws.FnExactOwed', WHERE WHAT IT READS IS OF BULK AT MOST 1048576: true; the input reads as it did. -/
def fnExactOwedUptoRow : OpenClaim := { program := "ytbnfdakaloeocaadoor", sum := "d693a9f5db478fa7108c1daabfa6243ff203aee14d36902aeced5d3280c0b688", func := "loop.example/g00296/laws.FnExactOwed", spec := "fnExactOwed", inPlace := ["internal/reflectlite.ValueOf", "(internal/reflectlite.Value).Type", "(internal/reflectlite.Value).IsNil", "internal/reflectlite.TypeOf", "(internal/reflectlite.Value).Elem", "(internal/reflectlite.Value).Set"], unfollowed := true, recurses := true, named := ["loop.example/g00296/impl.errNoFrame", "loop.example/g00296/impl.errNotYet", "errors.errorType"], ifaces := true, apart := false, laid := [("errors.errorType", laid_errors_errorType), ("loop.example/g00296/impl.errNoFrame", laid_loop_example_g00296_impl_errNoFrame), ("loop.example/g00296/impl.errNotYet", laid_loop_example_g00296_impl_errNotYet)], narrowed := true }
def FnExactOwedUptoSaid : Prop := fnExactOwedUptoRow.holds Tryd.pinned (OpenSpec.upto fnExactOwedSpec)

/-- 'laws.FnExactGrants', WHERE WHAT IT READS IS OF BULK AT MOST 1048576: true; the input reads as it did. -/
def fnExactGrantsUptoRow : OpenClaim := { program := "ytbnfdakaloeocaadoor", sum := "d693a9f5db478fa7108c1daabfa6243ff203aee14d36902aeced5d3280c0b688", func := "loop.example/g00296/laws.FnExactGrants", spec := "fnExactGrants", inPlace := ["internal/reflectlite.ValueOf", "(internal/reflectlite.Value).Type", "(internal/reflectlite.Value).IsNil", "internal/reflectlite.TypeOf", "(internal/reflectlite.Value).Elem", "(internal/reflectlite.Value).Set"], unfollowed := true, recurses := true, named := ["loop.example/g00296/impl.errNoFrame", "loop.example/g00296/impl.errNotYet", "errors.errorType"], ifaces := true, apart := false, laid := [("errors.errorType", laid_errors_errorType), ("loop.example/g00296/impl.errNoFrame", laid_loop_example_g00296_impl_errNoFrame), ("loop.example/g00296/impl.errNotYet", laid_loop_example_g00296_impl_errNotYet)], narrowed := true }
def FnExactGrantsUptoSaid : Prop := fnExactGrantsUptoRow.holds Tryd.pinned (OpenSpec.upto fnExactGrantsSpec)

end Rows
end Go.Proofs.YtbnfdakaloeocaaDoor
