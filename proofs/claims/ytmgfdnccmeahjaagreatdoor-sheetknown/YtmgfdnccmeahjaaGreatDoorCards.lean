/-
  DERIVED. GIVEN WITH THE SEED: THE CARDS: each row of YtmgfdnccmeahjaaGreatDoorRows.lean that lists a variable, with what it lists TIED to the program's text (the seventh form; the later family's looks); each row that meets fmt, with fmt's text TOLD by the authors' own Lean function (tested against real Go, not proved from fmt's source: count such statements apart). THE CARD IS WHAT COUNTS. Prove the row's statement (the work); the ties are given (YtmgfdnccmeahjaaGreatDoorTie.lean); close each card by the builder's one call (the guide's Derived/Test/ToyasCard.lean, 'card_holds'). Laid BY PROGRAM, IN A SANDBOX (cutbox-door.mjs). By AI agents, Wed Nov 11 2026. No macro, syntax, notation, axiom, sorry.
-/
import Derived.Test.YtmgfdnccmeahjaaGreatDoorRows
import GoSem.ClaimSeven
namespace Go.Proofs.YtmgfdnccmeahjaaGreatDoor
namespace Rows

/-- THE TIED CARD OF 'larderlaw04.SheetNamed'. -/
def sheetNamedCard : Claim7 := { stood := { row := sheetNamedRow, standIns := [], harness := (true, "943a6182f9653535a827dda702a8363aabca82e45260c2014ffe418c804b4e9f"), looks := true }, kinds := [], alts := [], laidByText := true, laidKinds := [.data, .data, .data, .data, .handle, .sentinel, .sentinel, .data, .sentinel, .sentinel, .sentinel, .sentinel, .sentinel, .sentinel, .sentinel, .sentinel, .sentinel, .sentinel, .sentinel, .sentinel, .sentinel, .sentinel, .sentinel, .sentinel, .sentinel, .sentinel, .sentinel, .sentinel, .pinned], laidTests := true, laidLooks := .later }
def SheetNamedCardSaid : Prop := Claim7.holds Tryz.pinned (.plain (OpenSpec.ofChange sheetNamedSpec)) sheetNamedCard

/-- THE TIED CARD OF 'larderlaw04.SheetTyped'. -/
def sheetTypedCard : Claim7 := { stood := { row := sheetTypedRow, standIns := [], harness := (true, "943a6182f9653535a827dda702a8363aabca82e45260c2014ffe418c804b4e9f"), looks := true }, kinds := [], alts := [], laidByText := true, laidKinds := [.data, .data, .data, .data, .handle, .sentinel, .sentinel, .data, .sentinel, .sentinel, .sentinel, .sentinel, .sentinel, .sentinel, .sentinel, .sentinel, .sentinel, .sentinel, .sentinel, .sentinel, .sentinel, .sentinel, .sentinel, .sentinel, .sentinel, .sentinel, .sentinel, .sentinel, .pinned], laidTests := true, laidLooks := .later }
def SheetTypedCardSaid : Prop := Claim7.holds Tryz.pinned (.plain (OpenSpec.ofChange sheetTypedSpec)) sheetTypedCard

/-- THE TIED CARD OF 'larderlaw04.SheetKnown'. -/
def sheetKnownCard : Claim7 := { stood := { row := sheetKnownRow, standIns := [], harness := (true, "943a6182f9653535a827dda702a8363aabca82e45260c2014ffe418c804b4e9f"), looks := true }, kinds := [], alts := [], laidByText := true, laidKinds := [.data, .data, .data, .data, .handle, .sentinel, .sentinel, .data, .sentinel, .sentinel, .sentinel, .sentinel, .sentinel, .sentinel, .sentinel, .sentinel, .sentinel, .sentinel, .sentinel, .sentinel, .sentinel, .sentinel, .sentinel, .sentinel, .sentinel, .sentinel, .sentinel, .sentinel, .pinned], laidTests := true, laidLooks := .later }
def SheetKnownCardSaid : Prop := Claim7.holds Tryz.pinned (.plain (OpenSpec.ofChange sheetKnownSpec)) sheetKnownCard

/-- THE TIED CARD OF 'larderlaw04.SheetShows'. -/
def sheetShowsCard : Claim7 := { stood := { row := sheetShowsRow, standIns := [], harness := (true, "943a6182f9653535a827dda702a8363aabca82e45260c2014ffe418c804b4e9f"), looks := true }, kinds := [], alts := [], laidByText := true, laidKinds := [.data, .data, .data, .data, .handle, .sentinel, .sentinel, .data, .sentinel, .sentinel, .sentinel, .sentinel, .sentinel, .sentinel, .sentinel, .sentinel, .sentinel, .sentinel, .sentinel, .sentinel, .sentinel, .sentinel, .sentinel, .sentinel, .sentinel, .sentinel, .sentinel, .sentinel, .pinned], laidTests := true, laidLooks := .later }
def SheetShowsCardSaid : Prop := Claim7.holds Tryz.pinned (.plain (OpenSpec.ofChange sheetShowsSpec)) sheetShowsCard

/-- THE TIED CARD OF 'larderlaw04.SheetOwn'. -/
def sheetOwnCard : Claim7 := { stood := { row := sheetOwnRow, standIns := [], harness := (true, "943a6182f9653535a827dda702a8363aabca82e45260c2014ffe418c804b4e9f"), looks := true }, kinds := [], alts := [], laidByText := true, laidKinds := [.data, .data, .data, .data, .handle, .sentinel, .sentinel, .data, .sentinel, .sentinel, .sentinel, .sentinel, .sentinel, .sentinel, .sentinel, .sentinel, .sentinel, .sentinel, .sentinel, .sentinel, .sentinel, .sentinel, .sentinel, .sentinel, .sentinel, .sentinel, .sentinel, .sentinel, .pinned], laidTests := true, laidLooks := .later }
def SheetOwnCardSaid : Prop := Claim7.holds Tryz.pinned (.plain (OpenSpec.ofChange sheetOwnSpec)) sheetOwnCard

/-- THE TIED CARD OF 'larderlaw04.SheetTypes'. -/
def sheetTypesCard : Claim7 := { stood := { row := sheetTypesRow, standIns := [], harness := (true, "943a6182f9653535a827dda702a8363aabca82e45260c2014ffe418c804b4e9f"), looks := true }, kinds := [], alts := [], laidByText := true, laidKinds := [.data, .data, .data, .data, .handle, .sentinel, .sentinel, .data, .sentinel, .sentinel, .sentinel, .sentinel, .sentinel, .sentinel, .sentinel, .sentinel, .sentinel, .sentinel, .sentinel, .sentinel, .sentinel, .sentinel, .sentinel, .sentinel, .sentinel, .sentinel, .sentinel, .sentinel, .pinned], laidTests := true, laidLooks := .later }
def SheetTypesCardSaid : Prop := Claim7.holds Tryz.pinned (.plain (OpenSpec.ofChange sheetTypesSpec)) sheetTypesCard

/-- THE SECOND FORM's CARD OF 'larderlaw04.SheetNamed'. -/
def sheetNamedUptoCard : Claim7 := { stood := { row := sheetNamedUptoRow, standIns := [], harness := (true, "943a6182f9653535a827dda702a8363aabca82e45260c2014ffe418c804b4e9f"), looks := true }, kinds := [], alts := [], laidByText := true, laidKinds := [.data, .data, .data, .data, .handle, .sentinel, .sentinel, .data, .sentinel, .sentinel, .sentinel, .sentinel, .sentinel, .sentinel, .sentinel, .sentinel, .sentinel, .sentinel, .sentinel, .sentinel, .sentinel, .sentinel, .sentinel, .sentinel, .sentinel, .sentinel, .sentinel, .sentinel, .pinned], laidTests := true, laidLooks := .later }
def SheetNamedUptoCardSaid : Prop := Claim7.holds Tryz.pinned (.plain (OpenSpec.upto sheetNamedSpec)) sheetNamedUptoCard

/-- THE SECOND FORM's CARD OF 'larderlaw04.SheetTyped'. -/
def sheetTypedUptoCard : Claim7 := { stood := { row := sheetTypedUptoRow, standIns := [], harness := (true, "943a6182f9653535a827dda702a8363aabca82e45260c2014ffe418c804b4e9f"), looks := true }, kinds := [], alts := [], laidByText := true, laidKinds := [.data, .data, .data, .data, .handle, .sentinel, .sentinel, .data, .sentinel, .sentinel, .sentinel, .sentinel, .sentinel, .sentinel, .sentinel, .sentinel, .sentinel, .sentinel, .sentinel, .sentinel, .sentinel, .sentinel, .sentinel, .sentinel, .sentinel, .sentinel, .sentinel, .sentinel, .pinned], laidTests := true, laidLooks := .later }
def SheetTypedUptoCardSaid : Prop := Claim7.holds Tryz.pinned (.plain (OpenSpec.upto sheetTypedSpec)) sheetTypedUptoCard

/-- THE SECOND FORM's CARD OF 'larderlaw04.SheetKnown'. -/
def sheetKnownUptoCard : Claim7 := { stood := { row := sheetKnownUptoRow, standIns := [], harness := (true, "943a6182f9653535a827dda702a8363aabca82e45260c2014ffe418c804b4e9f"), looks := true }, kinds := [], alts := [], laidByText := true, laidKinds := [.data, .data, .data, .data, .handle, .sentinel, .sentinel, .data, .sentinel, .sentinel, .sentinel, .sentinel, .sentinel, .sentinel, .sentinel, .sentinel, .sentinel, .sentinel, .sentinel, .sentinel, .sentinel, .sentinel, .sentinel, .sentinel, .sentinel, .sentinel, .sentinel, .sentinel, .pinned], laidTests := true, laidLooks := .later }
def SheetKnownUptoCardSaid : Prop := Claim7.holds Tryz.pinned (.plain (OpenSpec.upto sheetKnownSpec)) sheetKnownUptoCard

/-- THE SECOND FORM's CARD OF 'larderlaw04.SheetShows'. -/
def sheetShowsUptoCard : Claim7 := { stood := { row := sheetShowsUptoRow, standIns := [], harness := (true, "943a6182f9653535a827dda702a8363aabca82e45260c2014ffe418c804b4e9f"), looks := true }, kinds := [], alts := [], laidByText := true, laidKinds := [.data, .data, .data, .data, .handle, .sentinel, .sentinel, .data, .sentinel, .sentinel, .sentinel, .sentinel, .sentinel, .sentinel, .sentinel, .sentinel, .sentinel, .sentinel, .sentinel, .sentinel, .sentinel, .sentinel, .sentinel, .sentinel, .sentinel, .sentinel, .sentinel, .sentinel, .pinned], laidTests := true, laidLooks := .later }
def SheetShowsUptoCardSaid : Prop := Claim7.holds Tryz.pinned (.plain (OpenSpec.upto sheetShowsSpec)) sheetShowsUptoCard

/-- THE SECOND FORM's CARD OF 'larderlaw04.SheetOwn'. -/
def sheetOwnUptoCard : Claim7 := { stood := { row := sheetOwnUptoRow, standIns := [], harness := (true, "943a6182f9653535a827dda702a8363aabca82e45260c2014ffe418c804b4e9f"), looks := true }, kinds := [], alts := [], laidByText := true, laidKinds := [.data, .data, .data, .data, .handle, .sentinel, .sentinel, .data, .sentinel, .sentinel, .sentinel, .sentinel, .sentinel, .sentinel, .sentinel, .sentinel, .sentinel, .sentinel, .sentinel, .sentinel, .sentinel, .sentinel, .sentinel, .sentinel, .sentinel, .sentinel, .sentinel, .sentinel, .pinned], laidTests := true, laidLooks := .later }
def SheetOwnUptoCardSaid : Prop := Claim7.holds Tryz.pinned (.plain (OpenSpec.upto sheetOwnSpec)) sheetOwnUptoCard

/-- THE SECOND FORM's CARD OF 'larderlaw04.SheetTypes'. -/
def sheetTypesUptoCard : Claim7 := { stood := { row := sheetTypesUptoRow, standIns := [], harness := (true, "943a6182f9653535a827dda702a8363aabca82e45260c2014ffe418c804b4e9f"), looks := true }, kinds := [], alts := [], laidByText := true, laidKinds := [.data, .data, .data, .data, .handle, .sentinel, .sentinel, .data, .sentinel, .sentinel, .sentinel, .sentinel, .sentinel, .sentinel, .sentinel, .sentinel, .sentinel, .sentinel, .sentinel, .sentinel, .sentinel, .sentinel, .sentinel, .sentinel, .sentinel, .sentinel, .sentinel, .sentinel, .pinned], laidTests := true, laidLooks := .later }
def SheetTypesUptoCardSaid : Prop := Claim7.holds Tryz.pinned (.plain (OpenSpec.upto sheetTypesSpec)) sheetTypesUptoCard
end Rows
end Go.Proofs.YtmgfdnccmeahjaaGreatDoor
