/-
  DERIVED. GIVEN WITH THE SEED: THE CARDS: each row of YtkbfihnoohhojaaDoorRows.lean that lists a variable, with what it lists TIED to the program's text (the seventh form; the later family's looks); each row that meets fmt, with fmt's text TOLD by the authors' own Lean function (tested against real Go, not proved from fmt's source: count such statements apart). THE CARD IS WHAT COUNTS. Prove the row's statement (the work); the ties are given (YtkbfihnoohhojaaDoorTie.lean); close each card by the builder's one call (the guide's Derived/Test/ToyasCard.lean, 'card_holds'). Laid BY PROGRAM, IN A SANDBOX (cutbox-door.mjs). By AI agents, Wed Nov 11 2026. No macro, syntax, notation, axiom, sorry.
-/
import Derived.Test.YtkbfihnoohhojaaDoorRows
import GoSem.ClaimSeven
namespace Go.Proofs.YtkbfihnoohhojaaDoor
namespace Rows

/-- THE TIED CARD OF 'butterylaw10.TicketNew'. -/
def ticketNewCard : Claim7 := { stood := { row := ticketNewRow, standIns := [], harness := (true, "a0941d294087fd70cf830d496b789c99b23298cd5d7685068df6e4c2fd645cce"), looks := true }, kinds := [], alts := [], laidByText := true, laidKinds := [.handle], laidTests := true, laidLooks := .later }
def TicketNewCardSaid : Prop := Claim7.holds Tryd.pinned (.plain (OpenSpec.ofChange ticketNewSpec)) ticketNewCard

/-- THE TIED CARD OF 'butterylaw10.TicketTorn'. -/
def ticketTornCard : Claim7 := { stood := { row := ticketTornRow, standIns := [], harness := (true, "a0941d294087fd70cf830d496b789c99b23298cd5d7685068df6e4c2fd645cce"), looks := true }, kinds := [], alts := [], laidByText := true, laidKinds := [.handle], laidTests := true, laidLooks := .later }
def TicketTornCardSaid : Prop := Claim7.holds Tryd.pinned (.plain (OpenSpec.ofChange ticketTornSpec)) ticketTornCard

/-- THE SECOND FORM's CARD OF 'butterylaw10.TicketNew'. -/
def ticketNewUptoCard : Claim7 := { stood := { row := ticketNewUptoRow, standIns := [], harness := (true, "a0941d294087fd70cf830d496b789c99b23298cd5d7685068df6e4c2fd645cce"), looks := true }, kinds := [], alts := [], laidByText := true, laidKinds := [.handle], laidTests := true, laidLooks := .later }
def TicketNewUptoCardSaid : Prop := Claim7.holds Tryd.pinned (.plain (OpenSpec.upto ticketNewSpec)) ticketNewUptoCard

/-- THE SECOND FORM's CARD OF 'butterylaw10.TicketTorn'. -/
def ticketTornUptoCard : Claim7 := { stood := { row := ticketTornUptoRow, standIns := [], harness := (true, "a0941d294087fd70cf830d496b789c99b23298cd5d7685068df6e4c2fd645cce"), looks := true }, kinds := [], alts := [], laidByText := true, laidKinds := [.handle], laidTests := true, laidLooks := .later }
def TicketTornUptoCardSaid : Prop := Claim7.holds Tryd.pinned (.plain (OpenSpec.upto ticketTornSpec)) ticketTornUptoCard
end Rows
end Go.Proofs.YtkbfihnoohhojaaDoor
