/-
  DERIVED. GIVEN WITH THE SEED: THE CARDS: each row of YtpgpeafmlijfkaaDoorRows.lean that lists a variable, with what it lists TIED to the program's text (the seventh form; the later family's looks); each row that meets fmt, with fmt's text TOLD by the authors' own Lean function (tested against real Go, not proved from fmt's source: count such statements apart). THE CARD IS WHAT COUNTS. Prove the row's statement (the work); the ties are given (YtpgpeafmlijfkaaDoorTie.lean); close each card by the builder's one call (the guide's Derived/Test/ToyasCard.lean, 'card_holds'). Laid BY PROGRAM, IN A SANDBOX (cutbox-door.mjs). By AI agents, Wed Nov 11 2026. No macro, syntax, notation, axiom, sorry.
-/
import Derived.Test.YtpgpeafmlijfkaaDoorRows
import GoSem.ClaimSeven
namespace Go.Proofs.YtpgpeafmlijfkaaDoor
namespace Rows

/-- THE TIED CARD OF 'larderlaw04.SheetStuck'. -/
def sheetStuckCard : Claim7 := { stood := { row := sheetStuckRow, standIns := [], harness := (true, "0b213de09eea83d59f5c48953304db07202d785a1ec795908c3c5c02cfbaaf90"), looks := true }, kinds := [], alts := [], laidByText := true, laidKinds := [.handle, .sentinel, .sentinel, .sentinel, .sentinel, .sentinel, .sentinel, .sentinel, .sentinel, .sentinel, .sentinel, .sentinel, .sentinel, .sentinel, .sentinel, .sentinel, .sentinel, .sentinel, .sentinel, .sentinel, .sentinel], laidTests := true, laidLooks := .later }
def SheetStuckCardSaid : Prop := Claim7.holds Tryd.pinned (.plain (OpenSpec.ofChange sheetStuckSpec)) sheetStuckCard

/-- THE TIED CARD OF 'larderlaw04.SheetPieces'. -/
def sheetPiecesCard : Claim7 := { stood := { row := sheetPiecesRow, standIns := [], harness := (true, "0b213de09eea83d59f5c48953304db07202d785a1ec795908c3c5c02cfbaaf90"), looks := true }, kinds := [], alts := [], laidByText := true, laidKinds := [.sentinel, .sentinel, .sentinel, .sentinel, .sentinel, .sentinel, .sentinel, .sentinel, .sentinel, .sentinel, .sentinel, .sentinel, .sentinel, .sentinel, .sentinel, .sentinel, .sentinel, .sentinel, .sentinel, .sentinel], laidTests := true, laidLooks := .later }
def SheetPiecesCardSaid : Prop := Claim7.holds Tryd.pinned (.plain (OpenSpec.ofChange sheetPiecesSpec)) sheetPiecesCard

/-- THE SECOND FORM's CARD OF 'larderlaw04.SheetStuck'. -/
def sheetStuckUptoCard : Claim7 := { stood := { row := sheetStuckUptoRow, standIns := [], harness := (true, "0b213de09eea83d59f5c48953304db07202d785a1ec795908c3c5c02cfbaaf90"), looks := true }, kinds := [], alts := [], laidByText := true, laidKinds := [.handle, .sentinel, .sentinel, .sentinel, .sentinel, .sentinel, .sentinel, .sentinel, .sentinel, .sentinel, .sentinel, .sentinel, .sentinel, .sentinel, .sentinel, .sentinel, .sentinel, .sentinel, .sentinel, .sentinel, .sentinel], laidTests := true, laidLooks := .later }
def SheetStuckUptoCardSaid : Prop := Claim7.holds Tryd.pinned (.plain (OpenSpec.upto sheetStuckSpec)) sheetStuckUptoCard

/-- THE SECOND FORM's CARD OF 'larderlaw04.SheetPieces'. -/
def sheetPiecesUptoCard : Claim7 := { stood := { row := sheetPiecesUptoRow, standIns := [], harness := (true, "0b213de09eea83d59f5c48953304db07202d785a1ec795908c3c5c02cfbaaf90"), looks := true }, kinds := [], alts := [], laidByText := true, laidKinds := [.sentinel, .sentinel, .sentinel, .sentinel, .sentinel, .sentinel, .sentinel, .sentinel, .sentinel, .sentinel, .sentinel, .sentinel, .sentinel, .sentinel, .sentinel, .sentinel, .sentinel, .sentinel, .sentinel, .sentinel], laidTests := true, laidLooks := .later }
def SheetPiecesUptoCardSaid : Prop := Claim7.holds Tryd.pinned (.plain (OpenSpec.upto sheetPiecesSpec)) sheetPiecesUptoCard
end Rows
end Go.Proofs.YtpgpeafmlijfkaaDoor
