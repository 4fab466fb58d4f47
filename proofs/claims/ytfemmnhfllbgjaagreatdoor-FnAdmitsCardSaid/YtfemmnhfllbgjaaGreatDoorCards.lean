/-
  DERIVED. GIVEN WITH THE SEED: THE CARDS: each row of YtfemmnhfllbgjaaGreatDoorRows.lean that lists a variable, with what it lists TIED to the program's text (the seventh form; the later family's looks); each row that meets fmt, with fmt's text TOLD by the authors' own Lean function (tested against real Go, not proved from fmt's source: count such statements apart). THE CARD IS WHAT COUNTS. Prove the row's statement (the work); the ties are given (YtfemmnhfllbgjaaGreatDoorTie.lean); close each card by the builder's one call (the guide's Derived/Test/ToyasCard.lean, 'card_holds'). Laid BY PROGRAM, IN A SANDBOX (cutbox-door.mjs). By AI agents, Wed Nov 11 2026. No macro, syntax, notation, axiom, sorry.
-/
import Derived.Test.YtfemmnhfllbgjaaGreatDoorRows
import GoSem.ClaimSeven
namespace Go.Proofs.YtfemmnhfllbgjaaGreatDoor
namespace Rows

/-- THE TIED CARD OF 'laws.FnAdmits'. -/
def fnAdmitsCard : Claim7 := { stood := { row := fnAdmitsRow, standIns := [], harness := (true, "18c0c22fb6843d6723af6af8fc5d231ba9bbfcc513b0587a2b6f2d28f790867a"), looks := true }, kinds := [], alts := [], laidByText := true, laidKinds := [.data, .data, .data, .data, .sentinel, .sentinel, .pinned], laidTests := true, laidLooks := .later }
def FnAdmitsCardSaid : Prop := Claim7.holds Tryz.pinned (.plain (OpenSpec.ofChange fnAdmitsSpec)) fnAdmitsCard

/-- THE TIED CARD OF 'laws.FnExactAdmitted'. -/
def fnExactAdmittedCard : Claim7 := { stood := { row := fnExactAdmittedRow, standIns := [], harness := (true, "18c0c22fb6843d6723af6af8fc5d231ba9bbfcc513b0587a2b6f2d28f790867a"), looks := true }, kinds := [], alts := [], laidByText := true, laidKinds := [.data, .data, .data, .data, .sentinel, .sentinel, .pinned], laidTests := true, laidLooks := .later }
def FnExactAdmittedCardSaid : Prop := Claim7.holds Tryz.pinned (.plain (OpenSpec.ofChange fnExactAdmittedSpec)) fnExactAdmittedCard

/-- THE SECOND FORM's CARD OF 'laws.FnAdmits'. -/
def fnAdmitsUptoCard : Claim7 := { stood := { row := fnAdmitsUptoRow, standIns := [], harness := (true, "18c0c22fb6843d6723af6af8fc5d231ba9bbfcc513b0587a2b6f2d28f790867a"), looks := true }, kinds := [], alts := [], laidByText := true, laidKinds := [.data, .data, .data, .data, .sentinel, .sentinel, .pinned], laidTests := true, laidLooks := .later }
def FnAdmitsUptoCardSaid : Prop := Claim7.holds Tryz.pinned (.plain (OpenSpec.upto fnAdmitsSpec)) fnAdmitsUptoCard

/-- THE SECOND FORM's CARD OF 'laws.FnExactAdmitted'. -/
def fnExactAdmittedUptoCard : Claim7 := { stood := { row := fnExactAdmittedUptoRow, standIns := [], harness := (true, "18c0c22fb6843d6723af6af8fc5d231ba9bbfcc513b0587a2b6f2d28f790867a"), looks := true }, kinds := [], alts := [], laidByText := true, laidKinds := [.data, .data, .data, .data, .sentinel, .sentinel, .pinned], laidTests := true, laidLooks := .later }
def FnExactAdmittedUptoCardSaid : Prop := Claim7.holds Tryz.pinned (.plain (OpenSpec.upto fnExactAdmittedSpec)) fnExactAdmittedUptoCard
end Rows
end Go.Proofs.YtfemmnhfllbgjaaGreatDoor
