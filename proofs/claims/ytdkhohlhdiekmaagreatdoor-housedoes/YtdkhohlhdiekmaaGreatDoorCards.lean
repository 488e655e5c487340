/-
  DERIVED. GIVEN WITH THE SEED: THE CARDS: each row of YtdkhohlhdiekmaaGreatDoorRows.lean that lists a variable, with what it lists TIED to the program's text (the seventh form; the later family's looks); each row that meets fmt, with fmt's text TOLD by the authors' own Lean function (tested against real Go, not proved from fmt's source: count such statements apart). THE CARD IS WHAT COUNTS. Prove the row's statement (the work); the ties are given (YtdkhohlhdiekmaaGreatDoorTie.lean); close each card by the builder's one call (the guide's Derived/Test/ToyasCard.lean, 'card_holds'). Laid BY PROGRAM, IN A SANDBOX (cutbox-door.mjs). By AI agents, Wed Nov 11 2026. No macro, syntax, notation, axiom, sorry.
-/
import Derived.Test.YtdkhohlhdiekmaaGreatDoorRows
import GoSem.ClaimSeven
namespace Go.Proofs.YtdkhohlhdiekmaaGreatDoor
namespace Rows

/-- THE TIED CARD OF 'tallymanlaw.HouseDoes'. -/
def houseDoesCard : Claim7 := { stood := { row := houseDoesRow, standIns := [], harness := (true, "22b143be85641fa65102e909253dbf9bcb081880b00833ea25db3e9884ac1379"), looks := true }, kinds := [], alts := [], laidByText := true, laidKinds := [.data, .data, .data, .data, .handle, .sentinel, .sentinel, .data, .data, .pinned], laidTests := true, laidLooks := .later }
def HouseDoesCardSaid : Prop := Claim7.holds Tryz.pinned (.plain (OpenSpec.ofChange houseDoesSpec)) houseDoesCard

/-- THE TIED CARD OF 'tallymankeep.HouseRestores'. -/
def houseRestoresCard : Claim7 := { stood := { row := houseRestoresRow, standIns := [], harness := (true, "22b143be85641fa65102e909253dbf9bcb081880b00833ea25db3e9884ac1379"), looks := true }, kinds := [], alts := [], laidByText := true, laidKinds := [.data, .data, .data, .data, .handle, .sentinel, .sentinel, .data, .data, .pinned], laidTests := true, laidLooks := .later }
def HouseRestoresCardSaid : Prop := Claim7.holds Tryz.pinned (.plain (OpenSpec.ofChange houseRestoresSpec)) houseRestoresCard

/-- THE TIED CARD OF 'tallymankeep.HouseTorn'. -/
def houseTornCard : Claim7 := { stood := { row := houseTornRow, standIns := [], harness := (true, "22b143be85641fa65102e909253dbf9bcb081880b00833ea25db3e9884ac1379"), looks := true }, kinds := [], alts := [], laidByText := true, laidKinds := [.data, .data, .data, .data, .sentinel, .sentinel, .data, .data, .pinned], laidTests := true, laidLooks := .later }
def HouseTornCardSaid : Prop := Claim7.holds Tryz.pinned (.plain (OpenSpec.ofChange houseTornSpec)) houseTornCard

/-- THE TIED CARD OF 'tallymankeep.HouseRefuses'. -/
def houseRefusesCard : Claim7 := { stood := { row := houseRefusesRow, standIns := [], harness := (true, "22b143be85641fa65102e909253dbf9bcb081880b00833ea25db3e9884ac1379"), looks := true }, kinds := [], alts := [], laidByText := true, laidKinds := [.data, .data, .data, .data, .sentinel, .sentinel, .data, .data, .pinned], laidTests := true, laidLooks := .later }
def HouseRefusesCardSaid : Prop := Claim7.holds Tryz.pinned (.plain (OpenSpec.ofChange houseRefusesSpec)) houseRefusesCard

/-- THE SECOND FORM's CARD OF 'tallymanlaw.HouseDoes'. -/
def houseDoesUptoCard : Claim7 := { stood := { row := houseDoesUptoRow, standIns := [], harness := (true, "22b143be85641fa65102e909253dbf9bcb081880b00833ea25db3e9884ac1379"), looks := true }, kinds := [], alts := [], laidByText := true, laidKinds := [.data, .data, .data, .data, .handle, .sentinel, .sentinel, .data, .data, .pinned], laidTests := true, laidLooks := .later }
def HouseDoesUptoCardSaid : Prop := Claim7.holds Tryz.pinned (.plain (OpenSpec.upto houseDoesSpec)) houseDoesUptoCard

/-- THE SECOND FORM's CARD OF 'tallymankeep.HouseRestores'. -/
def houseRestoresUptoCard : Claim7 := { stood := { row := houseRestoresUptoRow, standIns := [], harness := (true, "22b143be85641fa65102e909253dbf9bcb081880b00833ea25db3e9884ac1379"), looks := true }, kinds := [], alts := [], laidByText := true, laidKinds := [.data, .data, .data, .data, .handle, .sentinel, .sentinel, .data, .data, .pinned], laidTests := true, laidLooks := .later }
def HouseRestoresUptoCardSaid : Prop := Claim7.holds Tryz.pinned (.plain (OpenSpec.upto houseRestoresSpec)) houseRestoresUptoCard

/-- THE SECOND FORM's CARD OF 'tallymankeep.HouseTorn'. -/
def houseTornUptoCard : Claim7 := { stood := { row := houseTornUptoRow, standIns := [], harness := (true, "22b143be85641fa65102e909253dbf9bcb081880b00833ea25db3e9884ac1379"), looks := true }, kinds := [], alts := [], laidByText := true, laidKinds := [.data, .data, .data, .data, .sentinel, .sentinel, .data, .data, .pinned], laidTests := true, laidLooks := .later }
def HouseTornUptoCardSaid : Prop := Claim7.holds Tryz.pinned (.plain (OpenSpec.upto houseTornSpec)) houseTornUptoCard

/-- THE SECOND FORM's CARD OF 'tallymankeep.HouseRefuses'. -/
def houseRefusesUptoCard : Claim7 := { stood := { row := houseRefusesUptoRow, standIns := [], harness := (true, "22b143be85641fa65102e909253dbf9bcb081880b00833ea25db3e9884ac1379"), looks := true }, kinds := [], alts := [], laidByText := true, laidKinds := [.data, .data, .data, .data, .sentinel, .sentinel, .data, .data, .pinned], laidTests := true, laidLooks := .later }
def HouseRefusesUptoCardSaid : Prop := Claim7.holds Tryz.pinned (.plain (OpenSpec.upto houseRefusesSpec)) houseRefusesUptoCard
end Rows
end Go.Proofs.YtdkhohlhdiekmaaGreatDoor
