/-
  NARROWER THAN 'FOR EVERY INPUT', by the rows' own cells (each row's printed sentence says how): FnFrames: ifaces, laid · FnPieces: ifaces, laid · FnExactFrames: ifaces, laid.
  DERIVED. THE GIVEN ROWS OF THIS SEAT. 3 by the template 'for every input the law returns true; each argument reads behind the call as it read before'; 0 by the template 'total and deterministic' (their statements: YtelcnojmfkoboaaDoorTotals.lean).
  GIVEN WITH THE SEED: the statements are not yours to turn. If you find one false, say at which input.
  Laid BY PROGRAM, IN A SANDBOX (cutbox-rows.mjs): the forced cells as the released guide's own fill.sh prints them over the translation 105d6c5bd65256fb… (all of the seat's roots in one cut). By AI agents, Wed Nov 11 2026. No macro, syntax, notation, axiom, sorry.
-/
import Derived.Test.YtelcnojmfkoboaaDoorChecked
import GoSem.Claim
import GoSem.ClaimJoined
import GoSem.ClaimMapViews
import Derived.JoinedTies
import Derived.KernelRfl
namespace Go.Proofs.YtelcnojmfkoboaaDoor
/- THE CELL 'sum', in the pinned program and in every row, IS THE sha256 OF THE DUMP (.gsa) THAT YtelcnojmfkoboaaDoorProg.lean LOADS. Nothing in Lean hashes anything: it is a label: what it is worth is what the hold of that sum in a sandbox is worth. -/
noncomputable def Tryd.pinned : Pinned := { name := "ytelcnojmfkoboaadoor", sum := "105d6c5bd65256fba5d0df85bd564b9ce80c53f128fcf3951c47c75436591add", checked := Tryd.checked }
namespace Rows
def none {H : Type} : Left H := { results := [], args := [] }

/- WHAT THE LISTED PACKAGE-LEVEL VARIABLES READ AS WHEN THE CALL BEGINS. Each datum BY PROGRAM (the guide's laid-datum.mjs) off the statement by which the dump's own 'gosem.cut.vars' lays the variable. In a bare row this is a premise. The card (YtelcnojmfkoboaaDoorCards.lean) ties it to the program's text. -/
def laid_errors_errorType {H : Type} : DataW H := .iface "internal/reflectlite.rtype" (.agg [.ptr (.lit (.string [101, 114, 114, 111, 114]))])
def laid_loop_example_g00296_impl_errNoFrame {H : Type} : DataW H := .iface "*errors.errorString" (.ptr (.agg [.lit (.string [110, 111, 32, 114, 105, 103, 104, 116, 32, 102, 114, 97, 109, 101, 32, 98, 101, 103, 105, 110, 115, 32, 115, 111])]))
def laid_loop_example_g00296_impl_errNotYet {H : Type} : DataW H := .iface "*errors.errorString" (.ptr (.agg [.lit (.string [116, 104, 101, 32, 102, 114, 97, 109, 101, 32, 105, 115, 32, 110, 111, 116, 32, 119, 104, 111, 108, 101, 32, 121, 101, 116])]))

/-- 'laws.FnFrames': WHATEVER THE INPUT: true; the input reads as it did. -/
def fnFramesSpec : ChangeSpec := { name := "fnFrames", vars := ["loop.example/g00296/impl.errNoFrame", "loop.example/g00296/impl.errNotYet"], fn := fun _ => fun
  | [d, g1, g2] => { results := [.lit (.bool true)], args := [d], vars := [g1, g2] }
  | _ => none }
def fnFramesRow : OpenClaim := { program := "ytelcnojmfkoboaadoor", sum := "105d6c5bd65256fba5d0df85bd564b9ce80c53f128fcf3951c47c75436591add", func := "loop.example/g00296/laws.FnFrames", spec := "fnFrames", inPlace := ["internal/reflectlite.ValueOf", "(internal/reflectlite.Value).Type", "(internal/reflectlite.Value).IsNil", "internal/reflectlite.TypeOf", "(internal/reflectlite.Value).Elem", "(internal/reflectlite.Value).Set"], unfollowed := true, recurses := true, named := ["loop.example/g00296/impl.errNoFrame", "loop.example/g00296/impl.errNotYet", "errors.errorType"], ifaces := true, apart := false, laid := [("errors.errorType", laid_errors_errorType), ("loop.example/g00296/impl.errNoFrame", laid_loop_example_g00296_impl_errNoFrame), ("loop.example/g00296/impl.errNotYet", laid_loop_example_g00296_impl_errNotYet)] }
def FnFramesSaid : Prop := fnFramesRow.holds Tryd.pinned (OpenSpec.ofChange fnFramesSpec)

/-- ITS FALSE NEIGHBOUR: 'it returns false'. Refute it at one input. -/
def fnFramesWrong : ChangeSpec := { name := "fnFrames", vars := ["loop.example/g00296/impl.errNoFrame", "loop.example/g00296/impl.errNotYet"], fn := fun _ => fun
  | [d, g1, g2] => { results := [.lit (.bool false)], args := [d], vars := [g1, g2] }
  | _ => none }
def FnFramesWrongFalsely : Prop := fnFramesRow.holds Tryd.pinned (OpenSpec.ofChange fnFramesWrong)

/-- 'laws.FnPieces': WHATEVER THE INPUT: true; the input reads as it did. -/
def fnPiecesSpec : ChangeSpec := { name := "fnPieces", vars := ["loop.example/g00296/impl.errNoFrame", "loop.example/g00296/impl.errNotYet"], fn := fun _ => fun
  | [d, g1, g2] => { results := [.lit (.bool true)], args := [d], vars := [g1, g2] }
  | _ => none }
def fnPiecesRow : OpenClaim := { program := "ytelcnojmfkoboaadoor", sum := "105d6c5bd65256fba5d0df85bd564b9ce80c53f128fcf3951c47c75436591add", func := "loop.example/g00296/laws.FnPieces", spec := "fnPieces", inPlace := ["internal/reflectlite.ValueOf", "(internal/reflectlite.Value).Type", "(internal/reflectlite.Value).IsNil", "internal/reflectlite.TypeOf", "(internal/reflectlite.Value).Elem", "(internal/reflectlite.Value).Set"], unfollowed := true, recurses := true, named := ["loop.example/g00296/impl.errNoFrame", "loop.example/g00296/impl.errNotYet", "errors.errorType"], ifaces := true, apart := false, laid := [("errors.errorType", laid_errors_errorType), ("loop.example/g00296/impl.errNoFrame", laid_loop_example_g00296_impl_errNoFrame), ("loop.example/g00296/impl.errNotYet", laid_loop_example_g00296_impl_errNotYet)] }
def FnPiecesSaid : Prop := fnPiecesRow.holds Tryd.pinned (OpenSpec.ofChange fnPiecesSpec)

/-- ITS FALSE NEIGHBOUR: 'it returns false'. Refute it at one input. -/
def fnPiecesWrong : ChangeSpec := { name := "fnPieces", vars := ["loop.example/g00296/impl.errNoFrame", "loop.example/g00296/impl.errNotYet"], fn := fun _ => fun
  | [d, g1, g2] => { results := [.lit (.bool false)], args := [d], vars := [g1, g2] }
  | _ => none }
def FnPiecesWrongFalsely : Prop := fnPiecesRow.holds Tryd.pinned (OpenSpec.ofChange fnPiecesWrong)

/-- 'laws.FnExactFrames': WHATEVER THE INPUT: true; the input reads as it did. -/
def fnExactFramesSpec : ChangeSpec := { name := "fnExactFrames", vars := ["loop.example/g00296/impl.errNoFrame", "loop.example/g00296/impl.errNotYet"], fn := fun _ => fun
  | [d, g1, g2] => { results := [.lit (.bool true)], args := [d], vars := [g1, g2] }
  | _ => none }
def fnExactFramesRow : OpenClaim := { program := "ytelcnojmfkoboaadoor", sum := "105d6c5bd65256fba5d0df85bd564b9ce80c53f128fcf3951c47c75436591add", func := "loop.example/g00296/laws.FnExactFrames", spec := "fnExactFrames", inPlace := ["internal/reflectlite.ValueOf", "(internal/reflectlite.Value).Type", "(internal/reflectlite.Value).IsNil", "internal/reflectlite.TypeOf", "(internal/reflectlite.Value).Elem", "(internal/reflectlite.Value).Set"], unfollowed := true, recurses := true, named := ["loop.example/g00296/impl.errNoFrame", "loop.example/g00296/impl.errNotYet", "errors.errorType"], ifaces := true, apart := false, laid := [("errors.errorType", laid_errors_errorType), ("loop.example/g00296/impl.errNoFrame", laid_loop_example_g00296_impl_errNoFrame), ("loop.example/g00296/impl.errNotYet", laid_loop_example_g00296_impl_errNotYet)] }
def FnExactFramesSaid : Prop := fnExactFramesRow.holds Tryd.pinned (OpenSpec.ofChange fnExactFramesSpec)

/-- ITS FALSE NEIGHBOUR: 'it returns false'. Refute it at one input. -/
def fnExactFramesWrong : ChangeSpec := { name := "fnExactFrames", vars := ["loop.example/g00296/impl.errNoFrame", "loop.example/g00296/impl.errNotYet"], fn := fun _ => fun
  | [d, g1, g2] => { results := [.lit (.bool false)], args := [d], vars := [g1, g2] }
  | _ => none }
def FnExactFramesWrongFalsely : Prop := fnExactFramesRow.holds Tryd.pinned (OpenSpec.ofChange fnExactFramesWrong)

/- THE SECOND FORM. 'bulk': how many values and letters a reading holds, each counted each time it is reached (what is shared counts as often as it is met; a slice's spare places count too). A statement '..UptoSaid' is the law's where the arguments, and the package variables that the reading takes, are together of bulk at most 1048576: NARROWER than '..Said'. Prove '..Said' where nothing that the law and all that it calls make is longer than what came in: it says more and counts as full. Else prove '..UptoSaid'. A law counts once. -/
mutual
def uptoBulk {H : Type} : DataW H → Nat
  | .lit (.string bytes) => bytes.length + 1
  | .lit _ => 1
  | .nil => 1
  | .ptr d => uptoBulk d + 1
  | .slice elems spare => uptoBulkAll elems + uptoBulkAll spare + 1
  | .agg parts => uptoBulkAll parts + 1
  | .iface _ d => uptoBulk d + 1
  | .map entries => uptoBulkEntries entries + 1
  | .held _ => 1
def uptoBulkAll {H : Type} : List (DataW H) → Nat
  | [] => 0
  | d :: r => uptoBulk d + uptoBulkAll r
def uptoBulkEntries {H : Type} : List (Lit × DataW H) → Nat
  | [] => 0
  | x :: r => uptoBulkEntry x + uptoBulkEntries r
def uptoBulkEntry {H : Type} : Lit × DataW H → Nat
  | (.string bytes, d) => bytes.length + uptoBulk d + 1
  | (_, d) => uptoBulk d + 1
 end
def uptoSmall : (H : Type) → List (DataW H) → Bool := fun _ ds => decide (uptoBulkAll ds ≤ 1048576)
def OpenSpec.upto (s : _root_.Go.ChangeSpec) : _root_.Go.OpenSpec := { _root_.Go.OpenSpec.ofChange s with cond := some uptoSmall }

/-- 'laws.FnFrames', WHERE WHAT IT READS IS OF BULK AT MOST 1048576: true; the input reads as it did. -/
def fnFramesUptoRow : OpenClaim := { program := "ytelcnojmfkoboaadoor", sum := "105d6c5bd65256fba5d0df85bd564b9ce80c53f128fcf3951c47c75436591add", func := "loop.example/g00296/laws.FnFrames", spec := "fnFrames", inPlace := ["internal/reflectlite.ValueOf", "(internal/reflectlite.Value).Type", "(internal/reflectlite.Value).IsNil", "internal/reflectlite.TypeOf", "(internal/reflectlite.Value).Elem", "(internal/reflectlite.Value).Set"], unfollowed := true, recurses := true, named := ["loop.example/g00296/impl.errNoFrame", "loop.example/g00296/impl.errNotYet", "errors.errorType"], ifaces := true, apart := false, laid := [("errors.errorType", laid_errors_errorType), ("loop.example/g00296/impl.errNoFrame", laid_loop_example_g00296_impl_errNoFrame), ("loop.example/g00296/impl.errNotYet", laid_loop_example_g00296_impl_errNotYet)], narrowed := true }
def FnFramesUptoSaid : Prop := fnFramesUptoRow.holds Tryd.pinned (OpenSpec.upto fnFramesSpec)

/-- 'laws.FnPieces', WHERE WHAT IT READS IS OF BULK AT MOST 1048576: true; the input reads as it did. -/
def fnPiecesUptoRow : OpenClaim := { program := "ytelcnojmfkoboaadoor", sum := "105d6c5bd65256fba5d0df85bd564b9ce80c53f128fcf3951c47c75436591add", func := "loop.example/g00296/laws.FnPieces", spec := "fnPieces", inPlace := ["internal/reflectlite.ValueOf", "(internal/reflectlite.Value).Type", "(internal/reflectlite.Value).IsNil", "internal/reflectlite.TypeOf", "(internal/reflectlite.Value).Elem", "(internal/reflectlite.Value).Set"], unfollowed := true, recurses := true, named := ["loop.example/g00296/impl.errNoFrame", "loop.example/g00296/impl.errNotYet", "errors.errorType"], ifaces := true, apart := false, laid := [("errors.errorType", laid_errors_errorType), ("loop.example/g00296/impl.errNoFrame", laid_loop_example_g00296_impl_errNoFrame), ("loop.example/g00296/impl.errNotYet", laid_loop_example_g00296_impl_errNotYet)], narrowed := true }
def FnPiecesUptoSaid : Prop := fnPiecesUptoRow.holds Tryd.pinned (OpenSpec.upto fnPiecesSpec)

/-- 'laws.FnExactFrames', WHERE WHAT IT READS IS OF BULK AT MOST 1048576: true; the input reads as it did. -/
def fnExactFramesUptoRow : OpenClaim := { program := "ytelcnojmfkoboaadoor", sum := "105d6c5bd65256fba5d0df85bd564b9ce80c53f128fcf3951c47c75436591add", func := "loop.example/g00296/laws.FnExactFrames", spec := "fnExactFrames", inPlace := ["internal/reflectlite.ValueOf", "(internal/reflectlite.Value).Type", "(internal/reflectlite.Value).IsNil", "internal/reflectlite.TypeOf", "(internal/reflectlite.Value).Elem", "(internal/reflectlite.Value).Set"], unfollowed := true, recurses := true, named := ["loop.example/g00296/impl.errNoFrame", "loop.example/g00296/impl.errNotYet", "errors.errorType"], ifaces := true, apart := false, laid := [("errors.errorType", laid_errors_errorType), ("loop.example/g00296/impl.errNoFrame", laid_loop_example_g00296_impl_errNoFrame), ("loop.example/g00296/impl.errNotYet", laid_loop_example_g00296_impl_errNotYet)], narrowed := true }
def FnExactFramesUptoSaid : Prop := fnExactFramesUptoRow.holds Tryd.pinned (OpenSpec.upto fnExactFramesSpec)

end Rows
end Go.Proofs.YtelcnojmfkoboaaDoor
