/-
  DERIVED. GIVEN WITH THE SEED: THE CARDS: each row of YtbleojodidbhiaaGreatDoorRows.lean that lists a variable, with what it lists TIED to the program's text (the seventh form; the later family's looks); each row that meets fmt, with fmt's text TOLD by the authors' own Lean function (tested against real Go, not proved from fmt's source: count such statements apart). THE CARD IS WHAT COUNTS. Prove the row's statement (the work); the ties are given (YtbleojodidbhiaaGreatDoorTie.lean); close each card by the builder's one call (the guide's Derived/Test/ToyasCard.lean, 'card_holds'). Laid BY PROGRAM, IN A SANDBOX (cutbox-door.mjs). By AI agents, Wed Nov 11 2026. No macro, syntax, notation, axiom, sorry.
-/
import Derived.Test.YtbleojodidbhiaaGreatDoorRows
import GoSem.ClaimSeven
namespace Go.Proofs.YtbleojodidbhiaaGreatDoor
namespace Rows

/-- THE TIED CARD OF 'tallymankeep.DeskTears'. -/
def deskTearsCard : Claim7 := { stood := { row := deskTearsRow, standIns := [], harness := (true, "52c9c9f945f3eeb5f7c79e8710502f954dd4988aa1e110302417e9d58d34bb05"), looks := true }, kinds := [], alts := [], laidByText := true, laidKinds := [.data, .data, .data, .data, .handle, .sentinel, .sentinel, .data, .listed, .data, .data, .pinned], laidTests := true, laidLooks := .later }
def DeskTearsCardSaid : Prop := Claim7.holds Tryz.pinned (.plain (OpenSpec.ofChange deskTearsSpec)) deskTearsCard

/-- THE SECOND FORM's CARD OF 'tallymankeep.DeskTears'. -/
def deskTearsUptoCard : Claim7 := { stood := { row := deskTearsUptoRow, standIns := [], harness := (true, "52c9c9f945f3eeb5f7c79e8710502f954dd4988aa1e110302417e9d58d34bb05"), looks := true }, kinds := [], alts := [], laidByText := true, laidKinds := [.data, .data, .data, .data, .handle, .sentinel, .sentinel, .data, .listed, .data, .data, .pinned], laidTests := true, laidLooks := .later }
def DeskTearsUptoCardSaid : Prop := Claim7.holds Tryz.pinned (.plain (OpenSpec.upto deskTearsSpec)) deskTearsUptoCard
end Rows
end Go.Proofs.YtbleojodidbhiaaGreatDoor
