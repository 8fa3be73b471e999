/-
  DERIVED. GIVEN WITH THE SEED: THE CARDS: each row of YtgmghekgelmmcaaDoorRows.lean that lists a variable, with what it lists TIED to the program's text (the seventh form; the later family's looks); each row that meets fmt, with fmt's text TOLD by the authors' own Lean function (tested against real Go, not proved from fmt's source: count such statements apart). THE CARD IS WHAT COUNTS. Prove the row's statement (the work); the ties are given (YtgmghekgelmmcaaDoorTie.lean); close each card by the builder's one call (the guide's Derived/Test/ToyasCard.lean, 'card_holds'). Laid BY PROGRAM, IN A SANDBOX (cutbox-door.mjs). By AI agents, Wed Nov 11 2026. No macro, syntax, notation, axiom, sorry.
-/
import Derived.Test.YtgmghekgelmmcaaDoorRows
import GoSem.ClaimSeven
namespace Go.Proofs.YtgmghekgelmmcaaDoor
namespace Rows

/-- THE TIED CARD OF 'butterylaw12.BucketReads'. -/
def bucketReadsCard : Claim7 := { stood := { row := bucketReadsRow, standIns := [], harness := (true, "683093835e6a45b7107db189ba92100059779ebd05c4df121af5465c9e679072"), looks := true }, kinds := [], alts := [], laidByText := true, laidKinds := [.handle], laidTests := true, laidLooks := .later }
def BucketReadsCardSaid : Prop := Claim7.holds Tryd.pinned (.plain (OpenSpec.ofChange bucketReadsSpec)) bucketReadsCard

/-- THE TIED CARD OF 'butterylaw12.BucketDoes'. -/
def bucketDoesCard : Claim7 := { stood := { row := bucketDoesRow, standIns := [], harness := (true, "683093835e6a45b7107db189ba92100059779ebd05c4df121af5465c9e679072"), looks := true }, kinds := [], alts := [], laidByText := true, laidKinds := [.handle], laidTests := true, laidLooks := .later }
def BucketDoesCardSaid : Prop := Claim7.holds Tryd.pinned (.plain (OpenSpec.ofChange bucketDoesSpec)) bucketDoesCard

/-- THE TIED CARD OF 'butterylaw12.BucketRoom'. -/
def bucketRoomCard : Claim7 := { stood := { row := bucketRoomRow, standIns := [], harness := (true, "683093835e6a45b7107db189ba92100059779ebd05c4df121af5465c9e679072"), looks := true }, kinds := [], alts := [], laidByText := true, laidKinds := [.handle], laidTests := true, laidLooks := .later }
def BucketRoomCardSaid : Prop := Claim7.holds Tryd.pinned (.plain (OpenSpec.ofChange bucketRoomSpec)) bucketRoomCard

/-- THE SECOND FORM's CARD OF 'butterylaw12.BucketReads'. -/
def bucketReadsUptoCard : Claim7 := { stood := { row := bucketReadsUptoRow, standIns := [], harness := (true, "683093835e6a45b7107db189ba92100059779ebd05c4df121af5465c9e679072"), looks := true }, kinds := [], alts := [], laidByText := true, laidKinds := [.handle], laidTests := true, laidLooks := .later }
def BucketReadsUptoCardSaid : Prop := Claim7.holds Tryd.pinned (.plain (OpenSpec.upto bucketReadsSpec)) bucketReadsUptoCard

/-- THE SECOND FORM's CARD OF 'butterylaw12.BucketDoes'. -/
def bucketDoesUptoCard : Claim7 := { stood := { row := bucketDoesUptoRow, standIns := [], harness := (true, "683093835e6a45b7107db189ba92100059779ebd05c4df121af5465c9e679072"), looks := true }, kinds := [], alts := [], laidByText := true, laidKinds := [.handle], laidTests := true, laidLooks := .later }
def BucketDoesUptoCardSaid : Prop := Claim7.holds Tryd.pinned (.plain (OpenSpec.upto bucketDoesSpec)) bucketDoesUptoCard

/-- THE SECOND FORM's CARD OF 'butterylaw12.BucketRoom'. -/
def bucketRoomUptoCard : Claim7 := { stood := { row := bucketRoomUptoRow, standIns := [], harness := (true, "683093835e6a45b7107db189ba92100059779ebd05c4df121af5465c9e679072"), looks := true }, kinds := [], alts := [], laidByText := true, laidKinds := [.handle], laidTests := true, laidLooks := .later }
def BucketRoomUptoCardSaid : Prop := Claim7.holds Tryd.pinned (.plain (OpenSpec.upto bucketRoomSpec)) bucketRoomUptoCard
end Rows
end Go.Proofs.YtgmghekgelmmcaaDoor
