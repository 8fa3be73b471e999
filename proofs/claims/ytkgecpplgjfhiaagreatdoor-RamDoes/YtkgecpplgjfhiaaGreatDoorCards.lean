/-
  DERIVED. GIVEN WITH THE SEED: THE CARDS: each row of YtkgecpplgjfhiaaGreatDoorRows.lean that lists a variable, with what it lists TIED to the program's text (the seventh form; the later family's looks); each row that meets fmt, with fmt's text TOLD by the authors' own Lean function (tested against real Go, not proved from fmt's source: count such statements apart). THE CARD IS WHAT COUNTS. Prove the row's statement (the work); the ties are given (YtkgecpplgjfhiaaGreatDoorTie.lean); close each card by the builder's one call (the guide's Derived/Test/ToyasCard.lean, 'card_holds'). Laid BY PROGRAM, IN A SANDBOX (cutbox-door.mjs). By AI agents, Wed Nov 11 2026. No macro, syntax, notation, axiom, sorry.
-/
import Derived.Test.YtkgecpplgjfhiaaGreatDoorRows
import GoSem.ClaimSeven
namespace Go.Proofs.YtkgecpplgjfhiaaGreatDoor
namespace Rows

/-- THE TIED CARD OF 'butterylaw11.RamDoes'. -/
def ramDoesCard : Claim7 := { stood := { row := ramDoesRow, standIns := [], harness := (true, "9bb0e89176266ffd7a54a0d0d0237a85daecbbb96777eeb727239a5238830a77"), looks := true }, kinds := [], alts := [], laidByText := true, laidKinds := [.handle], laidTests := true, laidLooks := .later }
def RamDoesCardSaid : Prop := Claim7.holds Tryz.pinned (.plain (OpenSpec.ofChange ramDoesSpec)) ramDoesCard

/-- THE TIED CARD OF 'butterylaw11.RamBounds'. -/
def ramBoundsCard : Claim7 := { stood := { row := ramBoundsRow, standIns := [], harness := (true, "9bb0e89176266ffd7a54a0d0d0237a85daecbbb96777eeb727239a5238830a77"), looks := true }, kinds := [], alts := [], laidByText := true, laidKinds := [.handle], laidTests := true, laidLooks := .later }
def RamBoundsCardSaid : Prop := Claim7.holds Tryz.pinned (.plain (OpenSpec.ofChange ramBoundsSpec)) ramBoundsCard

/-- THE TIED CARD OF 'butterylaw11.RamKeeps'. -/
def ramKeepsCard : Claim7 := { stood := { row := ramKeepsRow, standIns := [], harness := (true, "9bb0e89176266ffd7a54a0d0d0237a85daecbbb96777eeb727239a5238830a77"), looks := true }, kinds := [], alts := [], laidByText := true, laidKinds := [.handle], laidTests := true, laidLooks := .later }
def RamKeepsCardSaid : Prop := Claim7.holds Tryz.pinned (.plain (OpenSpec.ofChange ramKeepsSpec)) ramKeepsCard

/-- THE TIED CARD OF 'butterylaw11.RamEnds'. -/
def ramEndsCard : Claim7 := { stood := { row := ramEndsRow, standIns := [], harness := (true, "9bb0e89176266ffd7a54a0d0d0237a85daecbbb96777eeb727239a5238830a77"), looks := true }, kinds := [], alts := [], laidByText := true, laidKinds := [.handle], laidTests := true, laidLooks := .later }
def RamEndsCardSaid : Prop := Claim7.holds Tryz.pinned (.plain (OpenSpec.ofChange ramEndsSpec)) ramEndsCard

/-- THE SECOND FORM's CARD OF 'butterylaw11.RamDoes'. -/
def ramDoesUptoCard : Claim7 := { stood := { row := ramDoesUptoRow, standIns := [], harness := (true, "9bb0e89176266ffd7a54a0d0d0237a85daecbbb96777eeb727239a5238830a77"), looks := true }, kinds := [], alts := [], laidByText := true, laidKinds := [.handle], laidTests := true, laidLooks := .later }
def RamDoesUptoCardSaid : Prop := Claim7.holds Tryz.pinned (.plain (OpenSpec.upto ramDoesSpec)) ramDoesUptoCard

/-- THE SECOND FORM's CARD OF 'butterylaw11.RamBounds'. -/
def ramBoundsUptoCard : Claim7 := { stood := { row := ramBoundsUptoRow, standIns := [], harness := (true, "9bb0e89176266ffd7a54a0d0d0237a85daecbbb96777eeb727239a5238830a77"), looks := true }, kinds := [], alts := [], laidByText := true, laidKinds := [.handle], laidTests := true, laidLooks := .later }
def RamBoundsUptoCardSaid : Prop := Claim7.holds Tryz.pinned (.plain (OpenSpec.upto ramBoundsSpec)) ramBoundsUptoCard

/-- THE SECOND FORM's CARD OF 'butterylaw11.RamKeeps'. -/
def ramKeepsUptoCard : Claim7 := { stood := { row := ramKeepsUptoRow, standIns := [], harness := (true, "9bb0e89176266ffd7a54a0d0d0237a85daecbbb96777eeb727239a5238830a77"), looks := true }, kinds := [], alts := [], laidByText := true, laidKinds := [.handle], laidTests := true, laidLooks := .later }
def RamKeepsUptoCardSaid : Prop := Claim7.holds Tryz.pinned (.plain (OpenSpec.upto ramKeepsSpec)) ramKeepsUptoCard

/-- THE SECOND FORM's CARD OF 'butterylaw11.RamEnds'. -/
def ramEndsUptoCard : Claim7 := { stood := { row := ramEndsUptoRow, standIns := [], harness := (true, "9bb0e89176266ffd7a54a0d0d0237a85daecbbb96777eeb727239a5238830a77"), looks := true }, kinds := [], alts := [], laidByText := true, laidKinds := [.handle], laidTests := true, laidLooks := .later }
def RamEndsUptoCardSaid : Prop := Claim7.holds Tryz.pinned (.plain (OpenSpec.upto ramEndsSpec)) ramEndsUptoCard
end Rows
end Go.Proofs.YtkgecpplgjfhiaaGreatDoor
