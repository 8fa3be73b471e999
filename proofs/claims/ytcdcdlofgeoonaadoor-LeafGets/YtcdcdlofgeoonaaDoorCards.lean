/-
  DERIVED. GIVEN WITH THE SEED: THE CARDS: each row of YtcdcdlofgeoonaaDoorRows.lean that lists a variable, with what it lists TIED to the program's text (the seventh form; the later family's looks); each row that meets fmt, with fmt's text TOLD by the authors' own Lean function (tested against real Go, not proved from fmt's source: count such statements apart). THE CARD IS WHAT COUNTS. Prove the row's statement (the work); the ties are given (YtcdcdlofgeoonaaDoorTie.lean); close each card by the builder's one call (the guide's Derived/Test/ToyasCard.lean, 'card_holds'). Laid BY PROGRAM, IN A SANDBOX (cutbox-door.mjs). By AI agents, Wed Nov 11 2026. No macro, syntax, notation, axiom, sorry.
-/
import Derived.Test.YtcdcdlofgeoonaaDoorRows
import GoSem.ClaimSeven
namespace Go.Proofs.YtcdcdlofgeoonaaDoor
namespace Rows

/-- THE TIED CARD OF 'butterylaw05.LeafPuts'. -/
def leafPutsCard : Claim7 := { stood := { row := leafPutsRow, standIns := [], harness := (true, "6542fe9d2e4e36aa2169e9ba71735f82c13104d0d79219696e0cea5fdc40f148"), looks := true }, kinds := [], alts := [], laidByText := true, laidKinds := [.handle], laidTests := true, laidLooks := .later }
def LeafPutsCardSaid : Prop := Claim7.holds Tryd.pinned (.plain (OpenSpec.ofChange leafPutsSpec)) leafPutsCard

/-- THE TIED CARD OF 'butterylaw05.LeafGets'. -/
def leafGetsCard : Claim7 := { stood := { row := leafGetsRow, standIns := [], harness := (true, "6542fe9d2e4e36aa2169e9ba71735f82c13104d0d79219696e0cea5fdc40f148"), looks := true }, kinds := [], alts := [], laidByText := true, laidKinds := [.handle], laidTests := true, laidLooks := .later }
def LeafGetsCardSaid : Prop := Claim7.holds Tryd.pinned (.plain (OpenSpec.ofChange leafGetsSpec)) leafGetsCard

/-- THE TIED CARD OF 'butterylaw05.LeafBack'. -/
def leafBackCard : Claim7 := { stood := { row := leafBackRow, standIns := [], harness := (true, "6542fe9d2e4e36aa2169e9ba71735f82c13104d0d79219696e0cea5fdc40f148"), looks := true }, kinds := [], alts := [], laidByText := true, laidKinds := [.handle], laidTests := true, laidLooks := .later }
def LeafBackCardSaid : Prop := Claim7.holds Tryd.pinned (.plain (OpenSpec.ofChange leafBackSpec)) leafBackCard

/-- THE TIED CARD OF 'butterylaw05.LeafTorn'. -/
def leafTornCard : Claim7 := { stood := { row := leafTornRow, standIns := [], harness := (true, "6542fe9d2e4e36aa2169e9ba71735f82c13104d0d79219696e0cea5fdc40f148"), looks := true }, kinds := [], alts := [], laidByText := true, laidKinds := [.handle], laidTests := true, laidLooks := .later }
def LeafTornCardSaid : Prop := Claim7.holds Tryd.pinned (.plain (OpenSpec.ofChange leafTornSpec)) leafTornCard

/-- THE TIED CARD OF 'butterylaw05.LeafFresh'. -/
def leafFreshCard : Claim7 := { stood := { row := leafFreshRow, standIns := [], harness := (true, "6542fe9d2e4e36aa2169e9ba71735f82c13104d0d79219696e0cea5fdc40f148"), looks := true }, kinds := [], alts := [], laidByText := true, laidKinds := [.handle], laidTests := true, laidLooks := .later }
def LeafFreshCardSaid : Prop := Claim7.holds Tryd.pinned (.plain (OpenSpec.ofChange leafFreshSpec)) leafFreshCard

/-- THE SECOND FORM's CARD OF 'butterylaw05.LeafPuts'. -/
def leafPutsUptoCard : Claim7 := { stood := { row := leafPutsUptoRow, standIns := [], harness := (true, "6542fe9d2e4e36aa2169e9ba71735f82c13104d0d79219696e0cea5fdc40f148"), looks := true }, kinds := [], alts := [], laidByText := true, laidKinds := [.handle], laidTests := true, laidLooks := .later }
def LeafPutsUptoCardSaid : Prop := Claim7.holds Tryd.pinned (.plain (OpenSpec.upto leafPutsSpec)) leafPutsUptoCard

/-- THE SECOND FORM's CARD OF 'butterylaw05.LeafGets'. -/
def leafGetsUptoCard : Claim7 := { stood := { row := leafGetsUptoRow, standIns := [], harness := (true, "6542fe9d2e4e36aa2169e9ba71735f82c13104d0d79219696e0cea5fdc40f148"), looks := true }, kinds := [], alts := [], laidByText := true, laidKinds := [.handle], laidTests := true, laidLooks := .later }
def LeafGetsUptoCardSaid : Prop := Claim7.holds Tryd.pinned (.plain (OpenSpec.upto leafGetsSpec)) leafGetsUptoCard

/-- THE SECOND FORM's CARD OF 'butterylaw05.LeafBack'. -/
def leafBackUptoCard : Claim7 := { stood := { row := leafBackUptoRow, standIns := [], harness := (true, "6542fe9d2e4e36aa2169e9ba71735f82c13104d0d79219696e0cea5fdc40f148"), looks := true }, kinds := [], alts := [], laidByText := true, laidKinds := [.handle], laidTests := true, laidLooks := .later }
def LeafBackUptoCardSaid : Prop := Claim7.holds Tryd.pinned (.plain (OpenSpec.upto leafBackSpec)) leafBackUptoCard

/-- THE SECOND FORM's CARD OF 'butterylaw05.LeafTorn'. -/
def leafTornUptoCard : Claim7 := { stood := { row := leafTornUptoRow, standIns := [], harness := (true, "6542fe9d2e4e36aa2169e9ba71735f82c13104d0d79219696e0cea5fdc40f148"), looks := true }, kinds := [], alts := [], laidByText := true, laidKinds := [.handle], laidTests := true, laidLooks := .later }
def LeafTornUptoCardSaid : Prop := Claim7.holds Tryd.pinned (.plain (OpenSpec.upto leafTornSpec)) leafTornUptoCard

/-- THE SECOND FORM's CARD OF 'butterylaw05.LeafFresh'. -/
def leafFreshUptoCard : Claim7 := { stood := { row := leafFreshUptoRow, standIns := [], harness := (true, "6542fe9d2e4e36aa2169e9ba71735f82c13104d0d79219696e0cea5fdc40f148"), looks := true }, kinds := [], alts := [], laidByText := true, laidKinds := [.handle], laidTests := true, laidLooks := .later }
def LeafFreshUptoCardSaid : Prop := Claim7.holds Tryd.pinned (.plain (OpenSpec.upto leafFreshSpec)) leafFreshUptoCard
end Rows
end Go.Proofs.YtcdcdlofgeoonaaDoor
