/-
  DERIVED. GIVEN WITH THE SEED: THE CARDS: each row of YtppamojkhkdfpaaGreatDoorRows.lean that lists a variable, with what it lists TIED to the program's text (the seventh form; the later family's looks); each row that meets fmt, with fmt's text TOLD by the authors' own Lean function (tested against real Go, not proved from fmt's source: count such statements apart). THE CARD IS WHAT COUNTS. Prove the row's statement (the work); the ties are given (YtppamojkhkdfpaaGreatDoorTie.lean); close each card by the builder's one call (the guide's Derived/Test/ToyasCard.lean, 'card_holds'). Laid BY PROGRAM, IN A SANDBOX (cutbox-door.mjs). By AI agents, Wed Nov 11 2026. No macro, syntax, notation, axiom, sorry.
-/
import Derived.Test.YtppamojkhkdfpaaGreatDoorRows
import GoSem.ClaimSeven
namespace Go.Proofs.YtppamojkhkdfpaaGreatDoor
namespace Rows

/-- THE TIED CARD OF 'tallymanlaw.PeriodCloses'. -/
def periodClosesCard : Claim7 := { stood := { row := periodClosesRow, standIns := [], harness := (true, "341d38f823a178d660011a0abad938602a29f244a3eadc3ae0c02f2bf3122341"), looks := true }, kinds := [], alts := [], laidByText := true, laidKinds := [.data, .data, .data, .handle, .data], laidTests := true, laidLooks := .later }
def PeriodClosesCardSaid : Prop := Claim7.holds Tryz.pinned (.plain (OpenSpec.ofChange periodClosesSpec)) periodClosesCard

/-- THE TIED CARD OF 'tallymanlaw.LedgerPosts'. -/
def ledgerPostsCard : Claim7 := { stood := { row := ledgerPostsRow, standIns := [], harness := (true, "341d38f823a178d660011a0abad938602a29f244a3eadc3ae0c02f2bf3122341"), looks := true }, kinds := [], alts := [], laidByText := true, laidKinds := [.data, .data, .data, .data, .handle, .sentinel, .sentinel, .data, .data, .pinned], laidTests := true, laidLooks := .later }
def LedgerPostsCardSaid : Prop := Claim7.holds Tryz.pinned (.plain (OpenSpec.ofChange ledgerPostsSpec)) ledgerPostsCard

/-- THE TIED CARD OF 'tallymankeep.LedgerStock'. -/
def ledgerStockCard : Claim7 := { stood := { row := ledgerStockRow, standIns := [], harness := (true, "341d38f823a178d660011a0abad938602a29f244a3eadc3ae0c02f2bf3122341"), looks := true }, kinds := [], alts := [], laidByText := true, laidKinds := [.data], laidTests := true, laidLooks := .later }
def LedgerStockCardSaid : Prop := Claim7.holds Tryz.pinned (.plain (OpenSpec.ofChange ledgerStockSpec)) ledgerStockCard

/-- THE SECOND FORM's CARD OF 'tallymanlaw.PeriodCloses'. -/
def periodClosesUptoCard : Claim7 := { stood := { row := periodClosesUptoRow, standIns := [], harness := (true, "341d38f823a178d660011a0abad938602a29f244a3eadc3ae0c02f2bf3122341"), looks := true }, kinds := [], alts := [], laidByText := true, laidKinds := [.data, .data, .data, .handle, .data], laidTests := true, laidLooks := .later }
def PeriodClosesUptoCardSaid : Prop := Claim7.holds Tryz.pinned (.plain (OpenSpec.upto periodClosesSpec)) periodClosesUptoCard

/-- THE SECOND FORM's CARD OF 'tallymanlaw.LedgerPosts'. -/
def ledgerPostsUptoCard : Claim7 := { stood := { row := ledgerPostsUptoRow, standIns := [], harness := (true, "341d38f823a178d660011a0abad938602a29f244a3eadc3ae0c02f2bf3122341"), looks := true }, kinds := [], alts := [], laidByText := true, laidKinds := [.data, .data, .data, .data, .handle, .sentinel, .sentinel, .data, .data, .pinned], laidTests := true, laidLooks := .later }
def LedgerPostsUptoCardSaid : Prop := Claim7.holds Tryz.pinned (.plain (OpenSpec.upto ledgerPostsSpec)) ledgerPostsUptoCard

/-- THE SECOND FORM's CARD OF 'tallymankeep.LedgerStock'. -/
def ledgerStockUptoCard : Claim7 := { stood := { row := ledgerStockUptoRow, standIns := [], harness := (true, "341d38f823a178d660011a0abad938602a29f244a3eadc3ae0c02f2bf3122341"), looks := true }, kinds := [], alts := [], laidByText := true, laidKinds := [.data], laidTests := true, laidLooks := .later }
def LedgerStockUptoCardSaid : Prop := Claim7.holds Tryz.pinned (.plain (OpenSpec.upto ledgerStockSpec)) ledgerStockUptoCard
end Rows
end Go.Proofs.YtppamojkhkdfpaaGreatDoor
