/-
  DERIVED. GIVEN WITH THE SEED: THE CARDS: each row of YtnadephjbglcfaaDoorRows.lean that lists a variable, with what it lists TIED to the program's text (the seventh form; the later family's looks); each row that meets fmt, with fmt's text TOLD by the authors' own Lean function (tested against real Go, not proved from fmt's source: count such statements apart). THE CARD IS WHAT COUNTS. Prove the row's statement (the work); the ties are given (YtnadephjbglcfaaDoorTie.lean); close each card by the builder's one call (the guide's Derived/Test/ToyasCard.lean, 'card_holds'). Laid BY PROGRAM, IN A SANDBOX (cutbox-door.mjs). By AI agents, Wed Nov 11 2026. No macro, syntax, notation, axiom, sorry.
-/
import Derived.Test.YtnadephjbglcfaaDoorRows
import GoSem.ClaimSeven
namespace Go.Proofs.YtnadephjbglcfaaDoor
namespace Rows

/-- THE TIED CARD OF 'laws.FnExactToken'. -/
def fnExactTokenCard : Claim7 := { stood := { row := fnExactTokenRow, standIns := [], harness := (true, "3a70d33e1f45df011c159d18a1ec8cf0264de4b501e1fed22351453351553864"), looks := true }, kinds := [], alts := [], laidByText := true, laidKinds := [.data, .data, .data], laidTests := true, laidLooks := .later }
def FnExactTokenCardSaid : Prop := Claim7.holds Tryd.pinned (.plain (OpenSpec.ofChange fnExactTokenSpec)) fnExactTokenCard

/-- THE TIED CARD OF 'laws.FnExactReadToken'. -/
def fnExactReadTokenCard : Claim7 := { stood := { row := fnExactReadTokenRow, standIns := [], harness := (true, "3a70d33e1f45df011c159d18a1ec8cf0264de4b501e1fed22351453351553864"), looks := true }, kinds := [], alts := [], laidByText := true, laidKinds := [.data, .data, .data, .data, .sentinel, .sentinel, .pinned], laidTests := true, laidLooks := .later }
def FnExactReadTokenCardSaid : Prop := Claim7.holds Tryd.pinned (.plain (OpenSpec.ofChange fnExactReadTokenSpec)) fnExactReadTokenCard

/-- THE TIED CARD OF 'laws.FnExactSigned'. -/
def fnExactSignedCard : Claim7 := { stood := { row := fnExactSignedRow, standIns := [], harness := (true, "3a70d33e1f45df011c159d18a1ec8cf0264de4b501e1fed22351453351553864"), looks := true }, kinds := [], alts := [], laidByText := true, laidKinds := [.data, .data, .data, .data, .sentinel, .sentinel, .pinned], laidTests := true, laidLooks := .later }
def FnExactSignedCardSaid : Prop := Claim7.holds Tryd.pinned (.plain (OpenSpec.ofChange fnExactSignedSpec)) fnExactSignedCard

/-- THE SECOND FORM's CARD OF 'laws.FnExactToken'. -/
def fnExactTokenUptoCard : Claim7 := { stood := { row := fnExactTokenUptoRow, standIns := [], harness := (true, "3a70d33e1f45df011c159d18a1ec8cf0264de4b501e1fed22351453351553864"), looks := true }, kinds := [], alts := [], laidByText := true, laidKinds := [.data, .data, .data], laidTests := true, laidLooks := .later }
def FnExactTokenUptoCardSaid : Prop := Claim7.holds Tryd.pinned (.plain (OpenSpec.upto fnExactTokenSpec)) fnExactTokenUptoCard

/-- THE SECOND FORM's CARD OF 'laws.FnExactReadToken'. -/
def fnExactReadTokenUptoCard : Claim7 := { stood := { row := fnExactReadTokenUptoRow, standIns := [], harness := (true, "3a70d33e1f45df011c159d18a1ec8cf0264de4b501e1fed22351453351553864"), looks := true }, kinds := [], alts := [], laidByText := true, laidKinds := [.data, .data, .data, .data, .sentinel, .sentinel, .pinned], laidTests := true, laidLooks := .later }
def FnExactReadTokenUptoCardSaid : Prop := Claim7.holds Tryd.pinned (.plain (OpenSpec.upto fnExactReadTokenSpec)) fnExactReadTokenUptoCard

/-- THE SECOND FORM's CARD OF 'laws.FnExactSigned'. -/
def fnExactSignedUptoCard : Claim7 := { stood := { row := fnExactSignedUptoRow, standIns := [], harness := (true, "3a70d33e1f45df011c159d18a1ec8cf0264de4b501e1fed22351453351553864"), looks := true }, kinds := [], alts := [], laidByText := true, laidKinds := [.data, .data, .data, .data, .sentinel, .sentinel, .pinned], laidTests := true, laidLooks := .later }
def FnExactSignedUptoCardSaid : Prop := Claim7.holds Tryd.pinned (.plain (OpenSpec.upto fnExactSignedSpec)) fnExactSignedUptoCard
end Rows
end Go.Proofs.YtnadephjbglcfaaDoor
