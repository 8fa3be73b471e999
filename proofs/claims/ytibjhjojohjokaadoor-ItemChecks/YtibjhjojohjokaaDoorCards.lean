/-
  DERIVED. GIVEN WITH THE SEED: THE CARDS: each row of YtibjhjojohjokaaDoorRows.lean that lists a variable, with what it lists TIED to the program's text (the seventh form; the later family's looks); each row that meets fmt, with fmt's text TOLD by the authors' own Lean function (tested against real Go, not proved from fmt's source: count such statements apart). THE CARD IS WHAT COUNTS. Prove the row's statement (the work); the ties are given (YtibjhjojohjokaaDoorTie.lean); close each card by the builder's one call (the guide's Derived/Test/ToyasCard.lean, 'card_holds'). Laid BY PROGRAM, IN A SANDBOX (cutbox-door.mjs). By AI agents, Wed Nov 11 2026. No macro, syntax, notation, axiom, sorry.
-/
import Derived.Test.YtibjhjojohjokaaDoorRows
import GoSem.ClaimSeven
namespace Go.Proofs.YtibjhjojohjokaaDoor
namespace Rows

/-- THE TIED CARD OF 'butterylaw06.ItemChecks'. -/
def itemChecksCard : Claim7 := { stood := { row := itemChecksRow, standIns := [], harness := (true, "81f6ae1db267f6619df6e441e9396859185d832de690f9b340cc942fd86f094a"), looks := true }, kinds := [], alts := [], laidByText := true, laidKinds := [.handle], laidTests := true, laidLooks := .later }
def ItemChecksCardSaid : Prop := Claim7.holds Tryd.pinned (.plain (OpenSpec.ofChange itemChecksSpec)) itemChecksCard

/-- THE TIED CARD OF 'butterylaw06.ItemReads'. -/
def itemReadsCard : Claim7 := { stood := { row := itemReadsRow, standIns := [], harness := (true, "81f6ae1db267f6619df6e441e9396859185d832de690f9b340cc942fd86f094a"), looks := true }, kinds := [], alts := [], laidByText := true, laidKinds := [.handle], laidTests := true, laidLooks := .later }
def ItemReadsCardSaid : Prop := Claim7.holds Tryd.pinned (.plain (OpenSpec.ofChange itemReadsSpec)) itemReadsCard

/-- THE TIED CARD OF 'butterylaw06.ItemBack'. -/
def itemBackCard : Claim7 := { stood := { row := itemBackRow, standIns := [], harness := (true, "81f6ae1db267f6619df6e441e9396859185d832de690f9b340cc942fd86f094a"), looks := true }, kinds := [], alts := [], laidByText := true, laidKinds := [.handle], laidTests := true, laidLooks := .later }
def ItemBackCardSaid : Prop := Claim7.holds Tryd.pinned (.plain (OpenSpec.ofChange itemBackSpec)) itemBackCard

/-- THE TIED CARD OF 'butterylaw06.ItemFrom'. -/
def itemFromCard : Claim7 := { stood := { row := itemFromRow, standIns := [], harness := (true, "81f6ae1db267f6619df6e441e9396859185d832de690f9b340cc942fd86f094a"), looks := true }, kinds := [], alts := [], laidByText := true, laidKinds := [.handle], laidTests := true, laidLooks := .later }
def ItemFromCardSaid : Prop := Claim7.holds Tryd.pinned (.plain (OpenSpec.ofChange itemFromSpec)) itemFromCard

/-- THE SECOND FORM's CARD OF 'butterylaw06.ItemChecks'. -/
def itemChecksUptoCard : Claim7 := { stood := { row := itemChecksUptoRow, standIns := [], harness := (true, "81f6ae1db267f6619df6e441e9396859185d832de690f9b340cc942fd86f094a"), looks := true }, kinds := [], alts := [], laidByText := true, laidKinds := [.handle], laidTests := true, laidLooks := .later }
def ItemChecksUptoCardSaid : Prop := Claim7.holds Tryd.pinned (.plain (OpenSpec.upto itemChecksSpec)) itemChecksUptoCard

/-- THE SECOND FORM's CARD OF 'butterylaw06.ItemReads'. -/
def itemReadsUptoCard : Claim7 := { stood := { row := itemReadsUptoRow, standIns := [], harness := (true, "81f6ae1db267f6619df6e441e9396859185d832de690f9b340cc942fd86f094a"), looks := true }, kinds := [], alts := [], laidByText := true, laidKinds := [.handle], laidTests := true, laidLooks := .later }
def ItemReadsUptoCardSaid : Prop := Claim7.holds Tryd.pinned (.plain (OpenSpec.upto itemReadsSpec)) itemReadsUptoCard

/-- THE SECOND FORM's CARD OF 'butterylaw06.ItemBack'. -/
def itemBackUptoCard : Claim7 := { stood := { row := itemBackUptoRow, standIns := [], harness := (true, "81f6ae1db267f6619df6e441e9396859185d832de690f9b340cc942fd86f094a"), looks := true }, kinds := [], alts := [], laidByText := true, laidKinds := [.handle], laidTests := true, laidLooks := .later }
def ItemBackUptoCardSaid : Prop := Claim7.holds Tryd.pinned (.plain (OpenSpec.upto itemBackSpec)) itemBackUptoCard

/-- THE SECOND FORM's CARD OF 'butterylaw06.ItemFrom'. -/
def itemFromUptoCard : Claim7 := { stood := { row := itemFromUptoRow, standIns := [], harness := (true, "81f6ae1db267f6619df6e441e9396859185d832de690f9b340cc942fd86f094a"), looks := true }, kinds := [], alts := [], laidByText := true, laidKinds := [.handle], laidTests := true, laidLooks := .later }
def ItemFromUptoCardSaid : Prop := Claim7.holds Tryd.pinned (.plain (OpenSpec.upto itemFromSpec)) itemFromUptoCard
end Rows
end Go.Proofs.YtibjhjojohjokaaDoor
