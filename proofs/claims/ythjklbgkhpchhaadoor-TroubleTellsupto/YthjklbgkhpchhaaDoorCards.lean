/-
  DERIVED. GIVEN WITH THE SEED: THE CARDS: each row of YthjklbgkhpchhaaDoorRows.lean that lists a variable, with what it lists TIED to the program's text (the seventh form; the later family's looks); each row that meets fmt, with fmt's text TOLD by the authors' own Lean function (tested against real Go, not proved from fmt's source: count such statements apart). THE CARD IS WHAT COUNTS. Prove the row's statement (the work); the ties are given (YthjklbgkhpchhaaDoorTie.lean); close each card by the builder's one call (the guide's Derived/Test/ToyasCard.lean, 'card_holds'). Laid BY PROGRAM, IN A SANDBOX (cutbox-door.mjs). By AI agents, Wed Nov 11 2026. No macro, syntax, notation, axiom, sorry.
-/
import Derived.Test.YthjklbgkhpchhaaDoorRows
import GoSem.ClaimSeven
namespace Go.Proofs.YthjklbgkhpchhaaDoor
namespace Rows

/-- THE TIED CARD OF 'butterylaw01.TroubleTells'. -/
def troubleTellsCard : Claim7 := { stood := { row := troubleTellsRow, standIns := [], harness := (true, "4129372de9801ec6ecc212e9e401a499899960d9da8735b7b01a4af2d43d0136"), looks := true }, kinds := [], alts := [], laidByText := true, laidKinds := [.data, .data, .data, .handle], laidTests := true, laidLooks := .later }
def TroubleTellsCardSaid : Prop := Claim7.holds Tryd.pinned (.plain (OpenSpec.ofChange troubleTellsSpec)) troubleTellsCard

/-- THE TIED CARD OF 'butterylaw01.TroubleHas'. -/
def troubleHasCard : Claim7 := { stood := { row := troubleHasRow, standIns := [], harness := (true, "4129372de9801ec6ecc212e9e401a499899960d9da8735b7b01a4af2d43d0136"), looks := true }, kinds := [], alts := [], laidByText := true, laidKinds := [.data, .data, .data, .handle], laidTests := true, laidLooks := .later }
def TroubleHasCardSaid : Prop := Claim7.holds Tryd.pinned (.plain (OpenSpec.ofChange troubleHasSpec)) troubleHasCard

/-- THE TIED CARD OF 'butterylaw01.TroubleBoth'. -/
def troubleBothCard : Claim7 := { stood := { row := troubleBothRow, standIns := [], harness := (true, "4129372de9801ec6ecc212e9e401a499899960d9da8735b7b01a4af2d43d0136"), looks := true }, kinds := [], alts := [], laidByText := true, laidKinds := [.data, .data, .data, .handle], laidTests := true, laidLooks := .later }
def TroubleBothCardSaid : Prop := Claim7.holds Tryd.pinned (.plain (OpenSpec.ofChange troubleBothSpec)) troubleBothCard

/-- THE TIED CARD OF 'butterylaw01.TroubleWraps'. -/
def troubleWrapsCard : Claim7 := { stood := { row := troubleWrapsRow, standIns := [], harness := (true, "4129372de9801ec6ecc212e9e401a499899960d9da8735b7b01a4af2d43d0136"), looks := true }, kinds := [], alts := [], laidByText := true, laidKinds := [.data, .data, .data, .handle], laidTests := true, laidLooks := .later }
def TroubleWrapsCardSaid : Prop := Claim7.holds Tryd.pinned (.plain (OpenSpec.ofChange troubleWrapsSpec)) troubleWrapsCard

/-- THE SECOND FORM's CARD OF 'butterylaw01.TroubleTells'. -/
def troubleTellsUptoCard : Claim7 := { stood := { row := troubleTellsUptoRow, standIns := [], harness := (true, "4129372de9801ec6ecc212e9e401a499899960d9da8735b7b01a4af2d43d0136"), looks := true }, kinds := [], alts := [], laidByText := true, laidKinds := [.data, .data, .data, .handle], laidTests := true, laidLooks := .later }
def TroubleTellsUptoCardSaid : Prop := Claim7.holds Tryd.pinned (.plain (OpenSpec.upto troubleTellsSpec)) troubleTellsUptoCard

/-- THE SECOND FORM's CARD OF 'butterylaw01.TroubleHas'. -/
def troubleHasUptoCard : Claim7 := { stood := { row := troubleHasUptoRow, standIns := [], harness := (true, "4129372de9801ec6ecc212e9e401a499899960d9da8735b7b01a4af2d43d0136"), looks := true }, kinds := [], alts := [], laidByText := true, laidKinds := [.data, .data, .data, .handle], laidTests := true, laidLooks := .later }
def TroubleHasUptoCardSaid : Prop := Claim7.holds Tryd.pinned (.plain (OpenSpec.upto troubleHasSpec)) troubleHasUptoCard

/-- THE SECOND FORM's CARD OF 'butterylaw01.TroubleBoth'. -/
def troubleBothUptoCard : Claim7 := { stood := { row := troubleBothUptoRow, standIns := [], harness := (true, "4129372de9801ec6ecc212e9e401a499899960d9da8735b7b01a4af2d43d0136"), looks := true }, kinds := [], alts := [], laidByText := true, laidKinds := [.data, .data, .data, .handle], laidTests := true, laidLooks := .later }
def TroubleBothUptoCardSaid : Prop := Claim7.holds Tryd.pinned (.plain (OpenSpec.upto troubleBothSpec)) troubleBothUptoCard

/-- THE SECOND FORM's CARD OF 'butterylaw01.TroubleWraps'. -/
def troubleWrapsUptoCard : Claim7 := { stood := { row := troubleWrapsUptoRow, standIns := [], harness := (true, "4129372de9801ec6ecc212e9e401a499899960d9da8735b7b01a4af2d43d0136"), looks := true }, kinds := [], alts := [], laidByText := true, laidKinds := [.data, .data, .data, .handle], laidTests := true, laidLooks := .later }
def TroubleWrapsUptoCardSaid : Prop := Claim7.holds Tryd.pinned (.plain (OpenSpec.upto troubleWrapsSpec)) troubleWrapsUptoCard
end Rows
end Go.Proofs.YthjklbgkhpchhaaDoor
