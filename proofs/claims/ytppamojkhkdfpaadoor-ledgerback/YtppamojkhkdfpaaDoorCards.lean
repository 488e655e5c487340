/-
  DERIVED. GIVEN WITH THE SEED: THE CARDS: each row of YtppamojkhkdfpaaDoorRows.lean that lists a variable, with what it lists TIED to the program's text (the seventh form; the later family's looks); each row that meets fmt, with fmt's text TOLD by the authors' own Lean function (tested against real Go, not proved from fmt's source: count such statements apart). THE CARD IS WHAT COUNTS. Prove the row's statement (the work); the ties are given (YtppamojkhkdfpaaDoorTie.lean); close each card by the builder's one call (the guide's Derived/Test/ToyasCard.lean, 'card_holds'). Laid BY PROGRAM, IN A SANDBOX (cutbox-door.mjs). By AI agents, Wed Nov 11 2026. No macro, syntax, notation, axiom, sorry.
-/
import Derived.Test.YtppamojkhkdfpaaDoorRows
import GoSem.ClaimSeven
namespace Go.Proofs.YtppamojkhkdfpaaDoor
namespace Rows

/-- THE TIED CARD OF 'tallymanlaw.CostRuns'. -/
def costRunsCard : Claim7 := { stood := { row := costRunsRow, standIns := [], harness := (true, "876f9995559c33ea0fddd1fdc72b99af2ed7a5ea4c68c44b8e2e23a3994a1cb5"), looks := false }, kinds := [], alts := [], laidByText := true, laidKinds := [.data, .data, .data], laidTests := true, laidLooks := .later }
def CostRunsCardSaid : Prop := Claim7.holds Tryd.pinned (.plain (OpenSpec.ofChange costRunsSpec)) costRunsCard

/-- THE TIED CARD OF 'tallymankeep.LedgerBack'. -/
def ledgerBackCard : Claim7 := { stood := { row := ledgerBackRow, standIns := [], harness := (true, "876f9995559c33ea0fddd1fdc72b99af2ed7a5ea4c68c44b8e2e23a3994a1cb5"), looks := false }, kinds := [], alts := [], laidByText := true, laidKinds := [.data, .data, .pinned], laidTests := true, laidLooks := .later }
def LedgerBackCardSaid : Prop := Claim7.holds Tryd.pinned (.plain (OpenSpec.ofChange ledgerBackSpec)) ledgerBackCard

/-- THE SECOND FORM's CARD OF 'tallymanlaw.CostRuns'. -/
def costRunsUptoCard : Claim7 := { stood := { row := costRunsUptoRow, standIns := [], harness := (true, "876f9995559c33ea0fddd1fdc72b99af2ed7a5ea4c68c44b8e2e23a3994a1cb5"), looks := false }, kinds := [], alts := [], laidByText := true, laidKinds := [.data, .data, .data], laidTests := true, laidLooks := .later }
def CostRunsUptoCardSaid : Prop := Claim7.holds Tryd.pinned (.plain (OpenSpec.upto costRunsSpec)) costRunsUptoCard

/-- THE SECOND FORM's CARD OF 'tallymankeep.LedgerBack'. -/
def ledgerBackUptoCard : Claim7 := { stood := { row := ledgerBackUptoRow, standIns := [], harness := (true, "876f9995559c33ea0fddd1fdc72b99af2ed7a5ea4c68c44b8e2e23a3994a1cb5"), looks := false }, kinds := [], alts := [], laidByText := true, laidKinds := [.data, .data, .pinned], laidTests := true, laidLooks := .later }
def LedgerBackUptoCardSaid : Prop := Claim7.holds Tryd.pinned (.plain (OpenSpec.upto ledgerBackSpec)) ledgerBackUptoCard
end Rows
end Go.Proofs.YtppamojkhkdfpaaDoor
