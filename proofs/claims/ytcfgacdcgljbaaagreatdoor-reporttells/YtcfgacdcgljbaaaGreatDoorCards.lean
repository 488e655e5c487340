/-
  DERIVED. GIVEN WITH THE SEED: THE CARDS: each row of YtcfgacdcgljbaaaGreatDoorRows.lean that lists a variable, with what it lists TIED to the program's text (the seventh form; the later family's looks); each row that meets fmt, with fmt's text TOLD by the authors' own Lean function (tested against real Go, not proved from fmt's source: count such statements apart). THE CARD IS WHAT COUNTS. Prove the row's statement (the work); the ties are given (YtcfgacdcgljbaaaGreatDoorTie.lean); close each card by the builder's one call (the guide's Derived/Test/ToyasCard.lean, 'card_holds'). Laid BY PROGRAM, IN A SANDBOX (cutbox-door.mjs). By AI agents, Wed Nov 11 2026. No macro, syntax, notation, axiom, sorry.
-/
import Derived.Test.YtcfgacdcgljbaaaGreatDoorRows
import GoSem.ClaimSeven
namespace Go.Proofs.YtcfgacdcgljbaaaGreatDoor
namespace Rows

/-- THE TIED CARD OF 'tallymanlaw.PeriodCloses'. -/
def periodClosesCard : Claim7 := { stood := { row := periodClosesRow, standIns := [], harness := (true, "2219ededc969913d2cbf78540e5417cc61993513390f9987c0c0bc4ee98fd6ba"), looks := true }, kinds := [], alts := [], laidByText := true, laidKinds := [.data, .data, .data, .handle, .data], laidTests := true, laidLooks := .later }
def PeriodClosesCardSaid : Prop := Claim7.holds Tryz.pinned (.plain (OpenSpec.ofChange periodClosesSpec)) periodClosesCard

/-- THE TIED CARD OF 'tallymanlaw.LedgerPosts'. -/
def ledgerPostsCard : Claim7 := { stood := { row := ledgerPostsRow, standIns := [], harness := (true, "2219ededc969913d2cbf78540e5417cc61993513390f9987c0c0bc4ee98fd6ba"), looks := true }, kinds := [], alts := [], laidByText := true, laidKinds := [.data, .data, .data, .data, .handle, .sentinel, .sentinel, .data, .data, .pinned], laidTests := true, laidLooks := .later }
def LedgerPostsCardSaid : Prop := Claim7.holds Tryz.pinned (.plain (OpenSpec.ofChange ledgerPostsSpec)) ledgerPostsCard

/-- THE TIED CARD OF 'tallymanlaw.ReportTells'. -/
def reportTellsCard : Claim7 := { stood := { row := reportTellsRow, standIns := [], harness := (true, "2219ededc969913d2cbf78540e5417cc61993513390f9987c0c0bc4ee98fd6ba"), looks := true }, kinds := [], alts := [], laidByText := true, laidKinds := [.data, .data, .data, .handle], laidTests := true, laidLooks := .later }
def ReportTellsCardSaid : Prop := Claim7.holds Tryz.pinned (.plain (OpenSpec.ofChange reportTellsSpec)) reportTellsCard

/-- THE SECOND FORM's CARD OF 'tallymanlaw.PeriodCloses'. -/
def periodClosesUptoCard : Claim7 := { stood := { row := periodClosesUptoRow, standIns := [], harness := (true, "2219ededc969913d2cbf78540e5417cc61993513390f9987c0c0bc4ee98fd6ba"), looks := true }, kinds := [], alts := [], laidByText := true, laidKinds := [.data, .data, .data, .handle, .data], laidTests := true, laidLooks := .later }
def PeriodClosesUptoCardSaid : Prop := Claim7.holds Tryz.pinned (.plain (OpenSpec.upto periodClosesSpec)) periodClosesUptoCard

/-- THE SECOND FORM's CARD OF 'tallymanlaw.LedgerPosts'. -/
def ledgerPostsUptoCard : Claim7 := { stood := { row := ledgerPostsUptoRow, standIns := [], harness := (true, "2219ededc969913d2cbf78540e5417cc61993513390f9987c0c0bc4ee98fd6ba"), looks := true }, kinds := [], alts := [], laidByText := true, laidKinds := [.data, .data, .data, .data, .handle, .sentinel, .sentinel, .data, .data, .pinned], laidTests := true, laidLooks := .later }
def LedgerPostsUptoCardSaid : Prop := Claim7.holds Tryz.pinned (.plain (OpenSpec.upto ledgerPostsSpec)) ledgerPostsUptoCard

/-- THE SECOND FORM's CARD OF 'tallymanlaw.ReportTells'. -/
def reportTellsUptoCard : Claim7 := { stood := { row := reportTellsUptoRow, standIns := [], harness := (true, "2219ededc969913d2cbf78540e5417cc61993513390f9987c0c0bc4ee98fd6ba"), looks := true }, kinds := [], alts := [], laidByText := true, laidKinds := [.data, .data, .data, .handle], laidTests := true, laidLooks := .later }
def ReportTellsUptoCardSaid : Prop := Claim7.holds Tryz.pinned (.plain (OpenSpec.upto reportTellsSpec)) reportTellsUptoCard
end Rows
end Go.Proofs.YtcfgacdcgljbaaaGreatDoor
