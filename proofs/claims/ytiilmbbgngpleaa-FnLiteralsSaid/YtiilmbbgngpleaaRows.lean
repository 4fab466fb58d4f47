/-
  No cell of these rows narrows 'for every input' (looked for: loops, veiled, ifaces, maps, wideKeys, modest, calm, conditions, laid).
  DERIVED. THE GIVEN ROWS OF THIS SEAT. 6 by the template 'for every input the law returns true; each argument reads behind the call as it read before'; 0 by the template 'total and deterministic' (their statements: YtiilmbbgngpleaaTotals.lean).
  GIVEN WITH THE SEED: the statements are not yours to turn. If you find one false, say at which input.
  Laid BY PROGRAM, IN A SANDBOX (cutbox-rows.mjs): the forced cells as the released guide's own fill.sh prints them over the translation 31429a02581c1f62… (all of the seat's roots in one cut). By AI agents, Wed Nov 11 2026. No macro, syntax, notation, axiom, sorry.
-/
import Derived.Test.YtiilmbbgngpleaaChecked
import GoSem.Claim
import GoSem.ClaimJoined
import GoSem.ClaimMapViews
import Derived.JoinedTies
import Derived.KernelRfl
namespace Go.Proofs.Ytiilmbbgngpleaa
/- THE CELL 'sum', in the pinned program and in every row, IS THE sha256 OF THE DUMP (.gsa) THAT YtiilmbbgngpleaaProg.lean LOADS. Nothing in Lean hashes anything: it is a label: what it is worth is what the hold of that sum in a sandbox is worth. -/
noncomputable def Try.pinned : Pinned := { name := "ytiilmbbgngpleaa", sum := "31429a02581c1f62875c4971aa64ff6ed55b0990652f3b3f14747334a0061a39", checked := Try.checked }
namespace Rows
def none {H : Type} : Left H := { results := [], args := [] }

/-- 'laws.FnLiterals': WHATEVER THE INPUT: true; the input reads as it did. -/
def fnLiteralsSpec : ChangeSpec := { name := "fnLiterals", fn := fun _ => fun
  | [d] => { results := [.lit (.bool true)], args := [d] }
  | _ => none }
def fnLiteralsRow : OpenClaim := { program := "ytiilmbbgngpleaa", sum := "31429a02581c1f62875c4971aa64ff6ed55b0990652f3b3f14747334a0061a39", func := "loop.example/g00296/laws.FnLiterals", spec := "fnLiterals", inPlace := ["internal/bytealg.IndexByteString"], unfollowed := true, recurses := true, apart := false }
def FnLiteralsSaid : Prop := fnLiteralsRow.holds Try.pinned (OpenSpec.ofChange fnLiteralsSpec)

/-- ITS FALSE NEIGHBOUR: 'it returns false'. Refute it at one input. -/
def fnLiteralsWrong : ChangeSpec := { name := "fnLiterals", fn := fun _ => fun
  | [d] => { results := [.lit (.bool false)], args := [d] }
  | _ => none }
def FnLiteralsWrongFalsely : Prop := fnLiteralsRow.holds Try.pinned (OpenSpec.ofChange fnLiteralsWrong)

/-- 'laws.FnPacked': WHATEVER THE INPUT: true; the input reads as it did. -/
def fnPackedSpec : ChangeSpec := { name := "fnPacked", fn := fun _ => fun
  | [d] => { results := [.lit (.bool true)], args := [d] }
  | _ => none }
def fnPackedRow : OpenClaim := { program := "ytiilmbbgngpleaa", sum := "31429a02581c1f62875c4971aa64ff6ed55b0990652f3b3f14747334a0061a39", func := "loop.example/g00296/laws.FnPacked", spec := "fnPacked", inPlace := ["internal/bytealg.IndexByteString"], apart := false }
def FnPackedSaid : Prop := fnPackedRow.holds Try.pinned (OpenSpec.ofChange fnPackedSpec)

/-- ITS FALSE NEIGHBOUR: 'it returns false'. Refute it at one input. -/
def fnPackedWrong : ChangeSpec := { name := "fnPacked", fn := fun _ => fun
  | [d] => { results := [.lit (.bool false)], args := [d] }
  | _ => none }
def FnPackedWrongFalsely : Prop := fnPackedRow.holds Try.pinned (OpenSpec.ofChange fnPackedWrong)

/-- 'laws.FnExactPacked': WHATEVER THE INPUT: true; the input reads as it did. -/
def fnExactPackedSpec : ChangeSpec := { name := "fnExactPacked", fn := fun _ => fun
  | [d] => { results := [.lit (.bool true)], args := [d] }
  | _ => none }
def fnExactPackedRow : OpenClaim := { program := "ytiilmbbgngpleaa", sum := "31429a02581c1f62875c4971aa64ff6ed55b0990652f3b3f14747334a0061a39", func := "loop.example/g00296/laws.FnExactPacked", spec := "fnExactPacked", inPlace := ["internal/bytealg.IndexByteString"], apart := false }
def FnExactPackedSaid : Prop := fnExactPackedRow.holds Try.pinned (OpenSpec.ofChange fnExactPackedSpec)

/-- ITS FALSE NEIGHBOUR: 'it returns false'. Refute it at one input. -/
def fnExactPackedWrong : ChangeSpec := { name := "fnExactPacked", fn := fun _ => fun
  | [d] => { results := [.lit (.bool false)], args := [d] }
  | _ => none }
def FnExactPackedWrongFalsely : Prop := fnExactPackedRow.holds Try.pinned (OpenSpec.ofChange fnExactPackedWrong)

/-- 'laws.FnExactUnpacked': WHATEVER THE INPUT: true; the input reads as it did. -/
def fnExactUnpackedSpec : ChangeSpec := { name := "fnExactUnpacked", fn := fun _ => fun
  | [d] => { results := [.lit (.bool true)], args := [d] }
  | _ => none }
def fnExactUnpackedRow : OpenClaim := { program := "ytiilmbbgngpleaa", sum := "31429a02581c1f62875c4971aa64ff6ed55b0990652f3b3f14747334a0061a39", func := "loop.example/g00296/laws.FnExactUnpacked", spec := "fnExactUnpacked", apart := false }
def FnExactUnpackedSaid : Prop := fnExactUnpackedRow.holds Try.pinned (OpenSpec.ofChange fnExactUnpackedSpec)

/-- ITS FALSE NEIGHBOUR: 'it returns false'. Refute it at one input. -/
def fnExactUnpackedWrong : ChangeSpec := { name := "fnExactUnpacked", fn := fun _ => fun
  | [d] => { results := [.lit (.bool false)], args := [d] }
  | _ => none }
def FnExactUnpackedWrongFalsely : Prop := fnExactUnpackedRow.holds Try.pinned (OpenSpec.ofChange fnExactUnpackedWrong)

/-- 'laws.FnExactLiteral': WHATEVER THE INPUT: true; the input reads as it did. -/
def fnExactLiteralSpec : ChangeSpec := { name := "fnExactLiteral", fn := fun _ => fun
  | [d] => { results := [.lit (.bool true)], args := [d] }
  | _ => none }
def fnExactLiteralRow : OpenClaim := { program := "ytiilmbbgngpleaa", sum := "31429a02581c1f62875c4971aa64ff6ed55b0990652f3b3f14747334a0061a39", func := "loop.example/g00296/laws.FnExactLiteral", spec := "fnExactLiteral", inPlace := ["internal/bytealg.IndexByteString"], unfollowed := true, recurses := true, apart := false }
def FnExactLiteralSaid : Prop := fnExactLiteralRow.holds Try.pinned (OpenSpec.ofChange fnExactLiteralSpec)

/-- ITS FALSE NEIGHBOUR: 'it returns false'. Refute it at one input. -/
def fnExactLiteralWrong : ChangeSpec := { name := "fnExactLiteral", fn := fun _ => fun
  | [d] => { results := [.lit (.bool false)], args := [d] }
  | _ => none }
def FnExactLiteralWrongFalsely : Prop := fnExactLiteralRow.holds Try.pinned (OpenSpec.ofChange fnExactLiteralWrong)

/-- 'laws.FnExactReadLiteral': WHATEVER THE INPUT: true; the input reads as it did. -/
def fnExactReadLiteralSpec : ChangeSpec := { name := "fnExactReadLiteral", fn := fun _ => fun
  | [d] => { results := [.lit (.bool true)], args := [d] }
  | _ => none }
def fnExactReadLiteralRow : OpenClaim := { program := "ytiilmbbgngpleaa", sum := "31429a02581c1f62875c4971aa64ff6ed55b0990652f3b3f14747334a0061a39", func := "loop.example/g00296/laws.FnExactReadLiteral", spec := "fnExactReadLiteral", inPlace := ["internal/bytealg.IndexByteString"], unfollowed := true, recurses := true, apart := false }
def FnExactReadLiteralSaid : Prop := fnExactReadLiteralRow.holds Try.pinned (OpenSpec.ofChange fnExactReadLiteralSpec)

/-- ITS FALSE NEIGHBOUR: 'it returns false'. Refute it at one input. -/
def fnExactReadLiteralWrong : ChangeSpec := { name := "fnExactReadLiteral", fn := fun _ => fun
  | [d] => { results := [.lit (.bool false)], args := [d] }
  | _ => none }
def FnExactReadLiteralWrongFalsely : Prop := fnExactReadLiteralRow.holds Try.pinned (OpenSpec.ofChange fnExactReadLiteralWrong)

/- THE SECOND FORM. 'bulk': how many values and letters a reading holds, each counted each time it is reached (what is shared counts as often as it is met; a slice's spare places count too). A statement '..UptoSaid' is the law's where the arguments, and the package variables that the reading takes, are together of bulk at most 1048576: NARROWER than '..Said'. Prove '..Said' where nothing that the law and all that it calls make is longer than what came in: it says more and counts as full. Else prove '..UptoSaid'. A law counts once. -/
mutual
def uptoBulk {H : Type} : DataW H → Nat
  | .lit (.string bytes) => bytes.length + 1
  | .lit _ => 1
  | .nil => 1
  | .ptr d => uptoBulk d + 1
  | .slice elems spare => uptoBulkAll elems + uptoBulkAll spare + 1
  | .agg parts => uptoBulkAll parts + 1
  | .iface _ d => uptoBulk d + 1
  | .map entries => uptoBulkEntries entries + 1
  | .held _ => 1
def uptoBulkAll {H : Type} : List (DataW H) → Nat
  | [] => 0
  | d :: r => uptoBulk d + uptoBulkAll r
def uptoBulkEntries {H : Type} : List (Lit × DataW H) → Nat
  | [] => 0
  | x :: r => uptoBulkEntry x + uptoBulkEntries r
def uptoBulkEntry {H : Type} : Lit × DataW H → Nat
  | (.string bytes, d) => bytes.length + uptoBulk d + 1
  | (_, d) => uptoBulk d + 1
 end
def uptoSmall : (H : Type) → List (DataW H) → Bool := fun _ ds => decide (uptoBulkAll ds ≤ 1048576)
def OpenSpec.upto (s : _root_.Go.ChangeSpec) : _root_.Go.OpenSpec := { _root_.Go.OpenSpec.ofChange s with cond := some uptoSmall }

/-- 'laws.FnLiterals', WHERE WHAT IT READS IS OF BULK AT MOST 1048576: true; the input reads as it did. -/
def fnLiteralsUptoRow : OpenClaim := { program := "ytiilmbbgngpleaa", sum := "31429a02581c1f62875c4971aa64ff6ed55b0990652f3b3f14747334a0061a39", func := "loop.example/g00296/laws.FnLiterals", spec := "fnLiterals", inPlace := ["internal/bytealg.IndexByteString"], unfollowed := true, recurses := true, apart := false, narrowed := true }
def FnLiteralsUptoSaid : Prop := fnLiteralsUptoRow.holds Try.pinned (OpenSpec.upto fnLiteralsSpec)

/-- 'laws.FnPacked', WHERE WHAT IT READS IS OF BULK AT MOST 1048576: true; the input reads as it did. -/
def fnPackedUptoRow : OpenClaim := { program := "ytiilmbbgngpleaa", sum := "31429a02581c1f62875c4971aa64ff6ed55b0990652f3b3f14747334a0061a39", func := "loop.example/g00296/laws.FnPacked", spec := "fnPacked", inPlace := ["internal/bytealg.IndexByteString"], apart := false, narrowed := true }
def FnPackedUptoSaid : Prop := fnPackedUptoRow.holds Try.pinned (OpenSpec.upto fnPackedSpec)

/-- 'laws.FnExactPacked', WHERE WHAT IT READS IS OF BULK AT MOST 1048576: true; the input reads as it did. -/
def fnExactPackedUptoRow : OpenClaim := { program := "ytiilmbbgngpleaa", sum := "31429a02581c1f62875c4971aa64ff6ed55b0990652f3b3f14747334a0061a39", func := "loop.example/g00296/laws.FnExactPacked", spec := "fnExactPacked", inPlace := ["internal/bytealg.IndexByteString"], apart := false, narrowed := true }
def FnExactPackedUptoSaid : Prop := fnExactPackedUptoRow.holds Try.pinned (OpenSpec.upto fnExactPackedSpec)

/-- 'laws.FnExactUnpacked', WHERE WHAT IT READS IS OF BULK AT MOST 1048576: true; the input reads as it did. -/
def fnExactUnpackedUptoRow : OpenClaim := { program := "ytiilmbbgngpleaa", sum := "31429a02581c1f62875c4971aa64ff6ed55b0990652f3b3f14747334a0061a39", func := "loop.example/g00296/laws.FnExactUnpacked", spec := "fnExactUnpacked", apart := false, narrowed := true }
def FnExactUnpackedUptoSaid : Prop := fnExactUnpackedUptoRow.holds Try.pinned (OpenSpec.upto fnExactUnpackedSpec)

/-- 'laws.FnExactLiteral', WHERE WHAT IT READS IS OF BULK AT MOST 1048576: true; the input reads as it did. -/
def fnExactLiteralUptoRow : OpenClaim := { program := "ytiilmbbgngpleaa", sum := "31429a02581c1f62875c4971aa64ff6ed55b0990652f3b3f14747334a0061a39", func := "loop.example/g00296/laws.FnExactLiteral", spec := "fnExactLiteral", inPlace := ["internal/bytealg.IndexByteString"], unfollowed := true, recurses := true, apart := false, narrowed := true }
def FnExactLiteralUptoSaid : Prop := fnExactLiteralUptoRow.holds Try.pinned (OpenSpec.upto fnExactLiteralSpec)

/-- 'laws.FnExactReadLiteral', WHERE WHAT IT READS IS OF BULK AT MOST 1048576: true; the input reads as it did. -/
def fnExactReadLiteralUptoRow : OpenClaim := { program := "ytiilmbbgngpleaa", sum := "31429a02581c1f62875c4971aa64ff6ed55b0990652f3b3f14747334a0061a39", func := "loop.example/g00296/laws.FnExactReadLiteral", spec := "fnExactReadLiteral", inPlace := ["internal/bytealg.IndexByteString"], unfollowed := true, recurses := true, apart := false, narrowed := true }
def FnExactReadLiteralUptoSaid : Prop := fnExactReadLiteralUptoRow.holds Try.pinned (OpenSpec.upto fnExactReadLiteralSpec)

end Rows
end Go.Proofs.Ytiilmbbgngpleaa
