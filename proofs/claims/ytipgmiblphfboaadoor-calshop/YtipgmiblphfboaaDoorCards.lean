/-
  DERIVED. GIVEN WITH THE SEED: THE CARDS: each row of YtipgmiblphfboaaDoorRows.lean that lists a variable, with what it lists TIED to the program's text (the seventh form; the later family's looks); each row that meets fmt, with fmt's text TOLD by the authors' own Lean function (tested against real Go, not proved from fmt's source: count such statements apart). THE CARD IS WHAT COUNTS. Prove the row's statement (the work); the ties are given (YtipgmiblphfboaaDoorTie.lean); close each card by the builder's one call (the guide's Derived/Test/ToyasCard.lean, 'card_holds'). Laid BY PROGRAM, IN A SANDBOX (cutbox-door.mjs). By AI agents, Wed Nov 11 2026. No macro, syntax, notation, axiom, sorry.
-/
import Derived.Test.YtipgmiblphfboaaDoorRows
import GoSem.ClaimSeven
namespace Go.Proofs.YtipgmiblphfboaaDoor
namespace Rows

/-- THE TIED CARD OF 'larderlaw03.CalShop'. -/
def calShopCard : Claim7 := { stood := { row := calShopRow, standIns := [], harness := (true, "ee0b45c619032def0fe3722652c8169eae5729ad3b450db8de813b0212c54682"), looks := false }, kinds := [], alts := [], laidByText := true, laidKinds := [.data], laidTests := true, laidLooks := .later }
def CalShopCardSaid : Prop := Claim7.holds Tryd.pinned (.plain (OpenSpec.ofChange calShopSpec)) calShopCard

/-- THE TIED CARD OF 'larderlaw03.CalOpens'. -/
def calOpensCard : Claim7 := { stood := { row := calOpensRow, standIns := [], harness := (true, "ee0b45c619032def0fe3722652c8169eae5729ad3b450db8de813b0212c54682"), looks := false }, kinds := [], alts := [], laidByText := true, laidKinds := [.data, .data], laidTests := true, laidLooks := .later }
def CalOpensCardSaid : Prop := Claim7.holds Tryd.pinned (.plain (OpenSpec.ofChange calOpensSpec)) calOpensCard

/-- THE SECOND FORM's CARD OF 'larderlaw03.CalShop'. -/
def calShopUptoCard : Claim7 := { stood := { row := calShopUptoRow, standIns := [], harness := (true, "ee0b45c619032def0fe3722652c8169eae5729ad3b450db8de813b0212c54682"), looks := false }, kinds := [], alts := [], laidByText := true, laidKinds := [.data], laidTests := true, laidLooks := .later }
def CalShopUptoCardSaid : Prop := Claim7.holds Tryd.pinned (.plain (OpenSpec.upto calShopSpec)) calShopUptoCard

/-- THE SECOND FORM's CARD OF 'larderlaw03.CalOpens'. -/
def calOpensUptoCard : Claim7 := { stood := { row := calOpensUptoRow, standIns := [], harness := (true, "ee0b45c619032def0fe3722652c8169eae5729ad3b450db8de813b0212c54682"), looks := false }, kinds := [], alts := [], laidByText := true, laidKinds := [.data, .data], laidTests := true, laidLooks := .later }
def CalOpensUptoCardSaid : Prop := Claim7.holds Tryd.pinned (.plain (OpenSpec.upto calOpensSpec)) calOpensUptoCard
end Rows
end Go.Proofs.YtipgmiblphfboaaDoor
