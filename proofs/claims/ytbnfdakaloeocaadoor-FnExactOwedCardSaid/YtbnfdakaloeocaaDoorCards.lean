/-
  DERIVED. GIVEN WITH THE SEED: THE CARDS: each row of YtbnfdakaloeocaaDoorRows.lean that lists a variable, with what it lists TIED to the program's text (the seventh form; the later family's looks); each row that meets fmt, with fmt's text TOLD by the authors' own Lean function (tested against real Go, not proved from fmt's source: count such statements apart). THE CARD IS WHAT COUNTS. Prove the row's statement (the work); the ties are given (YtbnfdakaloeocaaDoorTie.lean); close each card by the builder's one call (the guide's Derived/Test/ToyasCard.lean, 'card_holds'). Laid BY PROGRAM, IN A SANDBOX (cutbox-door.mjs). By AI agents, Wed Nov 11 2026. No macro, syntax, notation, axiom, sorry.
-/
import Derived.Test.YtbnfdakaloeocaaDoorRows
import GoSem.ClaimSeven
namespace Go.Proofs.YtbnfdakaloeocaaDoor
namespace Rows

/-- THE TIED CARD OF 'laws.FnExactOwed'. -/
def fnExactOwedCard : Claim7 := { stood := { row := fnExactOwedRow, standIns := [], harness := (true, "82279379c74782eb521880acbf7c02b006248cc5934edfb595fb0f1450d81122"), looks := true }, kinds := [], alts := [], laidByText := true, laidKinds := [.handle, .sentinel, .sentinel], laidTests := true, laidLooks := .later }
def FnExactOwedCardSaid : Prop := Claim7.holds Tryd.pinned (.plain (OpenSpec.ofChange fnExactOwedSpec)) fnExactOwedCard

/-- THE TIED CARD OF 'laws.FnExactGrants'. -/
def fnExactGrantsCard : Claim7 := { stood := { row := fnExactGrantsRow, standIns := [], harness := (true, "82279379c74782eb521880acbf7c02b006248cc5934edfb595fb0f1450d81122"), looks := true }, kinds := [], alts := [], laidByText := true, laidKinds := [.handle, .sentinel, .sentinel], laidTests := true, laidLooks := .later }
def FnExactGrantsCardSaid : Prop := Claim7.holds Tryd.pinned (.plain (OpenSpec.ofChange fnExactGrantsSpec)) fnExactGrantsCard

/-- THE SECOND FORM's CARD OF 'laws.FnExactOwed'. -/
def fnExactOwedUptoCard : Claim7 := { stood := { row := fnExactOwedUptoRow, standIns := [], harness := (true, "82279379c74782eb521880acbf7c02b006248cc5934edfb595fb0f1450d81122"), looks := true }, kinds := [], alts := [], laidByText := true, laidKinds := [.handle, .sentinel, .sentinel], laidTests := true, laidLooks := .later }
def FnExactOwedUptoCardSaid : Prop := Claim7.holds Tryd.pinned (.plain (OpenSpec.upto fnExactOwedSpec)) fnExactOwedUptoCard

/-- THE SECOND FORM's CARD OF 'laws.FnExactGrants'. -/
def fnExactGrantsUptoCard : Claim7 := { stood := { row := fnExactGrantsUptoRow, standIns := [], harness := (true, "82279379c74782eb521880acbf7c02b006248cc5934edfb595fb0f1450d81122"), looks := true }, kinds := [], alts := [], laidByText := true, laidKinds := [.handle, .sentinel, .sentinel], laidTests := true, laidLooks := .later }
def FnExactGrantsUptoCardSaid : Prop := Claim7.holds Tryd.pinned (.plain (OpenSpec.upto fnExactGrantsSpec)) fnExactGrantsUptoCard
end Rows
end Go.Proofs.YtbnfdakaloeocaaDoor
