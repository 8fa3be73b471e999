/-
  DERIVED. GIVEN WITH THE SEED: THE CARDS: each row of YtfogocappakbdaaDoorRows.lean that lists a variable, with what it lists TIED to the program's text (the seventh form; the later family's looks); each row that meets fmt, with fmt's text TOLD by the authors' own Lean function (tested against real Go, not proved from fmt's source: count such statements apart). THE CARD IS WHAT COUNTS. Prove the row's statement (the work); the ties are given (YtfogocappakbdaaDoorTie.lean); close each card by the builder's one call (the guide's Derived/Test/ToyasCard.lean, 'card_holds'). Laid BY PROGRAM, IN A SANDBOX (cutbox-door.mjs). By AI agents, Wed Nov 11 2026. No macro, syntax, notation, axiom, sorry.
-/
import Derived.Test.YtfogocappakbdaaDoorRows
import GoSem.ClaimSeven
namespace Go.Proofs.YtfogocappakbdaaDoor
namespace Rows

/-- THE TIED CARD OF 'butterylaw04.FlashDoes'. -/
def flashDoesCard : Claim7 := { stood := { row := flashDoesRow, standIns := [], harness := (true, "303b7c082791c4b18ea1fdf42e28f776f1a081f9f555720792fed7415ccc1740"), looks := true }, kinds := [], alts := [], laidByText := true, laidKinds := [.handle], laidTests := true, laidLooks := .later }
def FlashDoesCardSaid : Prop := Claim7.holds Tryd.pinned (.plain (OpenSpec.ofChange flashDoesSpec)) flashDoesCard

/-- THE TIED CARD OF 'butterylaw04.FlashFirm'. -/
def flashFirmCard : Claim7 := { stood := { row := flashFirmRow, standIns := [], harness := (true, "303b7c082791c4b18ea1fdf42e28f776f1a081f9f555720792fed7415ccc1740"), looks := true }, kinds := [], alts := [], laidByText := true, laidKinds := [.handle], laidTests := true, laidLooks := .later }
def FlashFirmCardSaid : Prop := Claim7.holds Tryd.pinned (.plain (OpenSpec.ofChange flashFirmSpec)) flashFirmCard

/-- THE TIED CARD OF 'butterylaw04.FlashTorn'. -/
def flashTornCard : Claim7 := { stood := { row := flashTornRow, standIns := [], harness := (true, "303b7c082791c4b18ea1fdf42e28f776f1a081f9f555720792fed7415ccc1740"), looks := true }, kinds := [], alts := [], laidByText := true, laidKinds := [.handle], laidTests := true, laidLooks := .later }
def FlashTornCardSaid : Prop := Claim7.holds Tryd.pinned (.plain (OpenSpec.ofChange flashTornSpec)) flashTornCard

/-- THE TIED CARD OF 'butterylaw04.FlashFused'. -/
def flashFusedCard : Claim7 := { stood := { row := flashFusedRow, standIns := [], harness := (true, "303b7c082791c4b18ea1fdf42e28f776f1a081f9f555720792fed7415ccc1740"), looks := true }, kinds := [], alts := [], laidByText := true, laidKinds := [.handle], laidTests := true, laidLooks := .later }
def FlashFusedCardSaid : Prop := Claim7.holds Tryd.pinned (.plain (OpenSpec.ofChange flashFusedSpec)) flashFusedCard

/-- THE SECOND FORM's CARD OF 'butterylaw04.FlashDoes'. -/
def flashDoesUptoCard : Claim7 := { stood := { row := flashDoesUptoRow, standIns := [], harness := (true, "303b7c082791c4b18ea1fdf42e28f776f1a081f9f555720792fed7415ccc1740"), looks := true }, kinds := [], alts := [], laidByText := true, laidKinds := [.handle], laidTests := true, laidLooks := .later }
def FlashDoesUptoCardSaid : Prop := Claim7.holds Tryd.pinned (.plain (OpenSpec.upto flashDoesSpec)) flashDoesUptoCard

/-- THE SECOND FORM's CARD OF 'butterylaw04.FlashFirm'. -/
def flashFirmUptoCard : Claim7 := { stood := { row := flashFirmUptoRow, standIns := [], harness := (true, "303b7c082791c4b18ea1fdf42e28f776f1a081f9f555720792fed7415ccc1740"), looks := true }, kinds := [], alts := [], laidByText := true, laidKinds := [.handle], laidTests := true, laidLooks := .later }
def FlashFirmUptoCardSaid : Prop := Claim7.holds Tryd.pinned (.plain (OpenSpec.upto flashFirmSpec)) flashFirmUptoCard

/-- THE SECOND FORM's CARD OF 'butterylaw04.FlashTorn'. -/
def flashTornUptoCard : Claim7 := { stood := { row := flashTornUptoRow, standIns := [], harness := (true, "303b7c082791c4b18ea1fdf42e28f776f1a081f9f555720792fed7415ccc1740"), looks := true }, kinds := [], alts := [], laidByText := true, laidKinds := [.handle], laidTests := true, laidLooks := .later }
def FlashTornUptoCardSaid : Prop := Claim7.holds Tryd.pinned (.plain (OpenSpec.upto flashTornSpec)) flashTornUptoCard

/-- THE SECOND FORM's CARD OF 'butterylaw04.FlashFused'. -/
def flashFusedUptoCard : Claim7 := { stood := { row := flashFusedUptoRow, standIns := [], harness := (true, "303b7c082791c4b18ea1fdf42e28f776f1a081f9f555720792fed7415ccc1740"), looks := true }, kinds := [], alts := [], laidByText := true, laidKinds := [.handle], laidTests := true, laidLooks := .later }
def FlashFusedUptoCardSaid : Prop := Claim7.holds Tryd.pinned (.plain (OpenSpec.upto flashFusedSpec)) flashFusedUptoCard
end Rows
end Go.Proofs.YtfogocappakbdaaDoor
