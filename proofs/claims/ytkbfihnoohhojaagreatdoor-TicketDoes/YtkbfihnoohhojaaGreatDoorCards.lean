/-
  DERIVED. GIVEN WITH THE SEED: THE CARDS: each row of YtkbfihnoohhojaaGreatDoorRows.lean that lists a variable, with what it lists TIED to the program's text (the seventh form; the later family's looks); each row that meets fmt, with fmt's text TOLD by the authors' own Lean function (tested against real Go, not proved from fmt's source: count such statements apart). THE CARD IS WHAT COUNTS. Prove the row's statement (the work); the ties are given (YtkbfihnoohhojaaGreatDoorTie.lean); close each card by the builder's one call (the guide's Derived/Test/ToyasCard.lean, 'card_holds'). Laid BY PROGRAM, IN A SANDBOX (cutbox-door.mjs). By AI agents, Wed Nov 11 2026. No macro, syntax, notation, axiom, sorry.
-/
import Derived.Test.YtkbfihnoohhojaaGreatDoorRows
import GoSem.ClaimSeven
namespace Go.Proofs.YtkbfihnoohhojaaGreatDoor
namespace Rows

/-- THE TIED CARD OF 'butterylaw10.TicketDoes'. -/
def ticketDoesCard : Claim7 := { stood := { row := ticketDoesRow, standIns := [], harness := (true, "fa4f7600b690d4c5ec384f2f436eb7a7c5cbcf77d28243d434465bd8e31faf6c"), looks := true }, kinds := [], alts := [], laidByText := true, laidKinds := [.handle], laidTests := true, laidLooks := .later }
def TicketDoesCardSaid : Prop := Claim7.holds Tryz.pinned (.plain (OpenSpec.ofChange ticketDoesSpec)) ticketDoesCard

/-- THE SECOND FORM's CARD OF 'butterylaw10.TicketDoes'. -/
def ticketDoesUptoCard : Claim7 := { stood := { row := ticketDoesUptoRow, standIns := [], harness := (true, "fa4f7600b690d4c5ec384f2f436eb7a7c5cbcf77d28243d434465bd8e31faf6c"), looks := true }, kinds := [], alts := [], laidByText := true, laidKinds := [.handle], laidTests := true, laidLooks := .later }
def TicketDoesUptoCardSaid : Prop := Claim7.holds Tryz.pinned (.plain (OpenSpec.upto ticketDoesSpec)) ticketDoesUptoCard
end Rows
end Go.Proofs.YtkbfihnoohhojaaGreatDoor
