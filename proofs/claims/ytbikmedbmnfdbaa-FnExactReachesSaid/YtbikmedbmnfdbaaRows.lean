/-
  No cell of these rows narrows 'for every input' (looked for: loops, veiled, ifaces, maps, wideKeys, modest, calm, conditions, laid).
  DERIVED. THE GIVEN ROWS OF THIS SEAT. 3 by the template 'for every input the law returns true; each argument reads behind the call as it read before'; 0 by the template 'total and deterministic' (their statements: YtbikmedbmnfdbaaTotals.lean).
  GIVEN WITH THE SEED: the statements are not yours to turn. If you find one false, say at which input.
  Laid BY PROGRAM, IN A SANDBOX (cutbox-rows.mjs): the forced cells as the released guide's own fill.sh prints them over the translation cb847c4760bac6ca… (all of the seat's roots in one cut). By AI agents, Wed Nov 11 2026. No macro, syntax, notation, axiom, sorry.
-/
import Derived.Test.YtbikmedbmnfdbaaChecked
import GoSem.Claim
import GoSem.ClaimJoined
import GoSem.ClaimMapViews
import Derived.JoinedTies
import Derived.KernelRfl
namespace Go.Proofs.Ytbikmedbmnfdbaa
/- THE CELL 'sum', in the pinned program and in every row, IS THE sha256 OF THE DUMP (.gsa) THAT YtbikmedbmnfdbaaProg.lean LOADS. Nothing in Lean hashes anything: it is a label: what it is worth is what the hold of that sum in a sandbox is worth. -/
noncomputable def Try.pinned : Pinned := { name := "ytbikmedbmnfdbaa", sum := "cb847c4760bac6caf376ca9677384ada79278f7bec7f6e6fe318bf8bce46c947", checked := Try.checked }
namespace Rows
def none {H : Type} : Left H := { results := [], args := [] }

/-- 'laws.FnExactTenantsOk': WHATEVER THE INPUT: true; the input reads as it did. -/
def fnExactTenantsOkSpec : ChangeSpec := { name := "fnExactTenantsOk", fn := fun _ => fun
  | [d] => { results := [.lit (.bool true)], args := [d] }
  | _ => none }
def fnExactTenantsOkRow : OpenClaim := { program := "ytbikmedbmnfdbaa", sum := "cb847c4760bac6caf376ca9677384ada79278f7bec7f6e6fe318bf8bce46c947", func := "loop.example/g00296/laws.FnExactTenantsOk", spec := "fnExactTenantsOk", unfollowed := true, recurses := true, apart := false }
def FnExactTenantsOkSaid : Prop := fnExactTenantsOkRow.holds Try.pinned (OpenSpec.ofChange fnExactTenantsOkSpec)

/-- ITS FALSE NEIGHBOUR: 'it returns false'. Refute it at one input. -/
def fnExactTenantsOkWrong : ChangeSpec := { name := "fnExactTenantsOk", fn := fun _ => fun
  | [d] => { results := [.lit (.bool false)], args := [d] }
  | _ => none }
def FnExactTenantsOkWrongFalsely : Prop := fnExactTenantsOkRow.holds Try.pinned (OpenSpec.ofChange fnExactTenantsOkWrong)

/-- 'laws.FnExactTenantOf': WHATEVER THE INPUT: true; the input reads as it did. -/
def fnExactTenantOfSpec : ChangeSpec := { name := "fnExactTenantOf", fn := fun _ => fun
  | [d1, d2] => { results := [.lit (.bool true)], args := [d1, d2] }
  | _ => none }
def fnExactTenantOfRow : OpenClaim := { program := "ytbikmedbmnfdbaa", sum := "cb847c4760bac6caf376ca9677384ada79278f7bec7f6e6fe318bf8bce46c947", func := "loop.example/g00296/laws.FnExactTenantOf", spec := "fnExactTenantOf", unfollowed := true, recurses := true, apart := false }
def FnExactTenantOfSaid : Prop := fnExactTenantOfRow.holds Try.pinned (OpenSpec.ofChange fnExactTenantOfSpec)

/-- ITS FALSE NEIGHBOUR: 'it returns false'. Refute it at one input. -/
def fnExactTenantOfWrong : ChangeSpec := { name := "fnExactTenantOf", fn := fun _ => fun
  | [d1, d2] => { results := [.lit (.bool false)], args := [d1, d2] }
  | _ => none }
def FnExactTenantOfWrongFalsely : Prop := fnExactTenantOfRow.holds Try.pinned (OpenSpec.ofChange fnExactTenantOfWrong)

/-- 'laws.FnExactReaches': WHATEVER THE INPUT: true; the input reads as it did. -/
def fnExactReachesSpec : ChangeSpec := { name := "fnExactReaches", fn := fun _ => fun
  | [d1, d2] => { results := [.lit (.bool true)], args := [d1, d2] }
  | _ => none }
def fnExactReachesRow : OpenClaim := { program := "ytbikmedbmnfdbaa", sum := "cb847c4760bac6caf376ca9677384ada79278f7bec7f6e6fe318bf8bce46c947", func := "loop.example/g00296/laws.FnExactReaches", spec := "fnExactReaches", unfollowed := true, recurses := true, apart := false }
def FnExactReachesSaid : Prop := fnExactReachesRow.holds Try.pinned (OpenSpec.ofChange fnExactReachesSpec)

/-- ITS FALSE NEIGHBOUR: 'it returns false'. Refute it at one input. -/
def fnExactReachesWrong : ChangeSpec := { name := "fnExactReaches", fn := fun _ => fun
  | [d1, d2] => { results := [.lit (.bool false)], args := [d1, d2] }
  | _ => none }
def FnExactReachesWrongFalsely : Prop := fnExactReachesRow.holds Try.pinned (OpenSpec.ofChange fnExactReachesWrong)

/- THE SECOND FORM. 'bulk': how many values and letters a reading holds, each counted each time it is reached (what is shared counts as often as it is met; a slice's spare places count too). A statement '..UptoSaid' is the law's where the arguments, and the package variables that the reading takes, are together of bulk at most 1048576: NARROWER than '..Said'. Prove '..Said' where nothing that the law and all that it calls make is longer than what came in: it says more and counts as full. Else prove '..UptoSaid'. A law counts once. -/
mutual
def uptoBulk {H : Type} : DataW H → Nat
  | .lit (.string bytes) => bytes.length + 1
  | .lit _ => 1
  | .nil => 1
  | .ptr d => uptoBulk d + 1
  | .slice elems spare => uptoBulkAll elems + uptoBulkAll spare + 1
  | .agg parts => uptoBulkAll parts + 1
  | .iface _ d => uptoBulk d + 1
  | .map entries => uptoBulkEntries entries + 1
  | .held _ => 1
def uptoBulkAll {H : Type} : List (DataW H) → Nat
  | [] => 0
  | d :: r => uptoBulk d + uptoBulkAll r
def uptoBulkEntries {H : Type} : List (Lit × DataW H) → Nat
  | [] => 0
  | x :: r => uptoBulkEntry x + uptoBulkEntries r
def uptoBulkEntry {H : Type} : Lit × DataW H → Nat
  | (.string bytes, d) => bytes.length + uptoBulk d + 1
  | (_, d) => uptoBulk d + 1
 end
def uptoSmall : (H : Type) → List (DataW H) → Bool := fun _ ds => decide (uptoBulkAll ds ≤ 1048576)
def OpenSpec.upto (s : _root_.Go.ChangeSpec) : _root_.Go.OpenSpec := { _root_.Go.OpenSpec.ofChange s with cond := some uptoSmall }

/-- 'laws.FnExactTenantsOk', WHERE WHAT IT READS IS OF BULK AT MOST 1048576: true; the input reads as it did. -/
def fnExactTenantsOkUptoRow : OpenClaim := { program := "ytbikmedbmnfdbaa", sum := "cb847c4760bac6caf376ca9677384ada79278f7bec7f6e6fe318bf8bce46c947", func := "loop.example/g00296/laws.FnExactTenantsOk", spec := "fnExactTenantsOk", unfollowed := true, recurses := true, apart := false, narrowed := true }
def FnExactTenantsOkUptoSaid : Prop := fnExactTenantsOkUptoRow.holds Try.pinned (OpenSpec.upto fnExactTenantsOkSpec)

/-- 'laws.FnExactTenantOf', WHERE WHAT IT READS IS OF BULK AT MOST 1048576: true; the input reads as it did. -/
def fnExactTenantOfUptoRow : OpenClaim := { program := "ytbikmedbmnfdbaa", sum := "cb847c4760bac6caf376ca9677384ada79278f7bec7f6e6fe318bf8bce46c947", func := "loop.example/g00296/laws.FnExactTenantOf", spec := "fnExactTenantOf", unfollowed := true, recurses := true, apart := false, narrowed := true }
def FnExactTenantOfUptoSaid : Prop := fnExactTenantOfUptoRow.holds Try.pinned (OpenSpec.upto fnExactTenantOfSpec)

/-- 'laws.FnExactReaches', WHERE WHAT IT READS IS OF BULK AT MOST 1048576: true; the input reads as it did. -/
def fnExactReachesUptoRow : OpenClaim := { program := "ytbikmedbmnfdbaa", sum := "cb847c4760bac6caf376ca9677384ada79278f7bec7f6e6fe318bf8bce46c947", func := "loop.example/g00296/laws.FnExactReaches", spec := "fnExactReaches", unfollowed := true, recurses := true, apart := false, narrowed := true }
def FnExactReachesUptoSaid : Prop := fnExactReachesUptoRow.holds Try.pinned (OpenSpec.upto fnExactReachesSpec)

end Rows
end Go.Proofs.Ytbikmedbmnfdbaa
