/-
  DERIVED. GIVEN WITH THE SEED: THE CARDS: each row of YtlpbnkideaojeaaGreatDoorRows.lean that lists a variable, with what it lists TIED to the program's text (the seventh form; the later family's looks); each row that meets fmt, with fmt's text TOLD by the authors' own Lean function (tested against real Go, not proved from fmt's source: count such statements apart). THE CARD IS WHAT COUNTS. Prove the row's statement (the work); the ties are given (YtlpbnkideaojeaaGreatDoorTie.lean); close each card by the builder's one call (the guide's Derived/Test/ToyasCard.lean, 'card_holds'). Laid BY PROGRAM, IN A SANDBOX (cutbox-door.mjs). By AI agents, Wed Nov 11 2026. No macro, syntax, notation, axiom, sorry.
-/
import Derived.Test.YtlpbnkideaojeaaGreatDoorRows
import GoSem.ClaimSeven
namespace Go.Proofs.YtlpbnkideaojeaaGreatDoor
namespace Rows

/-- THE TIED CARD OF 'laws.FnExactReplied'. -/
def fnExactRepliedCard : Claim7 := { stood := { row := fnExactRepliedRow, standIns := [], harness := (true, "d9bf27807177e48798bc029bc4f8c5c491a9e48ad4e3cd264048f6713e10d8bc"), looks := true }, kinds := [], alts := [], laidByText := true, laidKinds := [.data, .data, .data], laidTests := true, laidLooks := .later }
def FnExactRepliedCardSaid : Prop := Claim7.holds Tryz.pinned (.plain (OpenSpec.ofChange fnExactRepliedSpec)) fnExactRepliedCard

/-- THE SECOND FORM's CARD OF 'laws.FnExactReplied'. -/
def fnExactRepliedUptoCard : Claim7 := { stood := { row := fnExactRepliedUptoRow, standIns := [], harness := (true, "d9bf27807177e48798bc029bc4f8c5c491a9e48ad4e3cd264048f6713e10d8bc"), looks := true }, kinds := [], alts := [], laidByText := true, laidKinds := [.data, .data, .data], laidTests := true, laidLooks := .later }
def FnExactRepliedUptoCardSaid : Prop := Claim7.holds Tryz.pinned (.plain (OpenSpec.upto fnExactRepliedSpec)) fnExactRepliedUptoCard
end Rows
end Go.Proofs.YtlpbnkideaojeaaGreatDoor
