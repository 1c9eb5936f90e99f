/-
  DERIVED. GIVEN WITH THE SEED: THE CARDS: each row of YtjjkfhpiapnjlacDoorRows.lean that lists a variable, with what it lists TIED to the program's text (the seventh form; the later family's looks); each row that meets fmt, with fmt's text TOLD by the authors' own Lean function (tested against real Go, not proved from fmt's source: count such statements apart). THE CARD IS WHAT COUNTS. Prove the row's statement (the work); the ties are given (YtjjkfhpiapnjlacDoorTie.lean); close each card by the builder's one call (the guide's Derived/Test/ToyasCard.lean, 'card_holds'). Laid BY PROGRAM, IN A SANDBOX (cutbox-door.mjs). By AI agents, Wed Nov 11 2026. No macro, syntax, notation, axiom, sorry.
-/
import Derived.Test.YtjjkfhpiapnjlacDoorRows
import GoSem.ClaimSeven
namespace Go.Proofs.YtjjkfhpiapnjlacDoor
namespace Rows

/-- THE TIED CARD OF 'larderlaw03.CalRound'. -/
def calRoundCard : Claim7 := { stood := { row := calRoundRow, standIns := [], harness := (true, "b91d5f6947c320cfc133c684d1e8e1e91ce2306f813f43b90646457154b5e2de"), looks := true }, kinds := [], alts := [], laidByText := true, laidKinds := [.data, .data, .data, .sentinel, .sentinel, .data], laidTests := true, laidLooks := .later }
def CalRoundCardSaid : Prop := Claim7.holds Tryd.pinned (.plain (OpenSpec.ofChange calRoundSpec)) calRoundCard

/-- THE TIED CARD OF 'larderlaw03.CalShop'. -/
def calShopCard : Claim7 := { stood := { row := calShopRow, standIns := [], harness := (true, "b91d5f6947c320cfc133c684d1e8e1e91ce2306f813f43b90646457154b5e2de"), looks := true }, kinds := [], alts := [], laidByText := true, laidKinds := [.data], laidTests := true, laidLooks := .later }
def CalShopCardSaid : Prop := Claim7.holds Tryd.pinned (.plain (OpenSpec.ofChange calShopSpec)) calShopCard

/-- THE TIED CARD OF 'larderlaw03.CalPrints'. -/
def calPrintsCard : Claim7 := { stood := { row := calPrintsRow, standIns := [], harness := (true, "b91d5f6947c320cfc133c684d1e8e1e91ce2306f813f43b90646457154b5e2de"), looks := true }, kinds := [], alts := [], laidByText := true, laidKinds := [.data, .data, .data, .data], laidTests := true, laidLooks := .later }
def CalPrintsCardSaid : Prop := Claim7.holds Tryd.pinned (.plain (OpenSpec.ofChange calPrintsSpec)) calPrintsCard

/-- THE TIED CARD OF 'larderlaw03.CalShows'. -/
def calShowsCard : Claim7 := { stood := { row := calShowsRow, standIns := [], harness := (true, "b91d5f6947c320cfc133c684d1e8e1e91ce2306f813f43b90646457154b5e2de"), looks := true }, kinds := [], alts := [], laidByText := true, laidKinds := [.data, .data, .data, .data], laidTests := true, laidLooks := .later }
def CalShowsCardSaid : Prop := Claim7.holds Tryd.pinned (.plain (OpenSpec.ofChange calShowsSpec)) calShowsCard

/-- THE TIED CARD OF 'larderlaw03.CalWeeks'. -/
def calWeeksCard : Claim7 := { stood := { row := calWeeksRow, standIns := [], harness := (true, "b91d5f6947c320cfc133c684d1e8e1e91ce2306f813f43b90646457154b5e2de"), looks := true }, kinds := [], alts := [], laidByText := true, laidKinds := [.data], laidTests := true, laidLooks := .later }
def CalWeeksCardSaid : Prop := Claim7.holds Tryd.pinned (.plain (OpenSpec.ofChange calWeeksSpec)) calWeeksCard

/-- THE TIED CARD OF 'larderlaw03.CalReads'. -/
def calReadsCard : Claim7 := { stood := { row := calReadsRow, standIns := [], harness := (true, "b91d5f6947c320cfc133c684d1e8e1e91ce2306f813f43b90646457154b5e2de"), looks := true }, kinds := [], alts := [], laidByText := true, laidKinds := [.data, .data, .data, .sentinel, .sentinel, .data], laidTests := true, laidLooks := .later }
def CalReadsCardSaid : Prop := Claim7.holds Tryd.pinned (.plain (OpenSpec.ofChange calReadsSpec)) calReadsCard

/-- THE SECOND FORM's CARD OF 'larderlaw03.CalRound'. -/
def calRoundUptoCard : Claim7 := { stood := { row := calRoundUptoRow, standIns := [], harness := (true, "b91d5f6947c320cfc133c684d1e8e1e91ce2306f813f43b90646457154b5e2de"), looks := true }, kinds := [], alts := [], laidByText := true, laidKinds := [.data, .data, .data, .sentinel, .sentinel, .data], laidTests := true, laidLooks := .later }
def CalRoundUptoCardSaid : Prop := Claim7.holds Tryd.pinned (.plain (OpenSpec.upto calRoundSpec)) calRoundUptoCard

/-- THE SECOND FORM's CARD OF 'larderlaw03.CalShop'. -/
def calShopUptoCard : Claim7 := { stood := { row := calShopUptoRow, standIns := [], harness := (true, "b91d5f6947c320cfc133c684d1e8e1e91ce2306f813f43b90646457154b5e2de"), looks := true }, kinds := [], alts := [], laidByText := true, laidKinds := [.data], laidTests := true, laidLooks := .later }
def CalShopUptoCardSaid : Prop := Claim7.holds Tryd.pinned (.plain (OpenSpec.upto calShopSpec)) calShopUptoCard

/-- THE SECOND FORM's CARD OF 'larderlaw03.CalPrints'. -/
def calPrintsUptoCard : Claim7 := { stood := { row := calPrintsUptoRow, standIns := [], harness := (true, "b91d5f6947c320cfc133c684d1e8e1e91ce2306f813f43b90646457154b5e2de"), looks := true }, kinds := [], alts := [], laidByText := true, laidKinds := [.data, .data, .data, .data], laidTests := true, laidLooks := .later }
def CalPrintsUptoCardSaid : Prop := Claim7.holds Tryd.pinned (.plain (OpenSpec.upto calPrintsSpec)) calPrintsUptoCard

/-- THE SECOND FORM's CARD OF 'larderlaw03.CalShows'. -/
def calShowsUptoCard : Claim7 := { stood := { row := calShowsUptoRow, standIns := [], harness := (true, "b91d5f6947c320cfc133c684d1e8e1e91ce2306f813f43b90646457154b5e2de"), looks := true }, kinds := [], alts := [], laidByText := true, laidKinds := [.data, .data, .data, .data], laidTests := true, laidLooks := .later }
def CalShowsUptoCardSaid : Prop := Claim7.holds Tryd.pinned (.plain (OpenSpec.upto calShowsSpec)) calShowsUptoCard

/-- THE SECOND FORM's CARD OF 'larderlaw03.CalWeeks'. -/
def calWeeksUptoCard : Claim7 := { stood := { row := calWeeksUptoRow, standIns := [], harness := (true, "b91d5f6947c320cfc133c684d1e8e1e91ce2306f813f43b90646457154b5e2de"), looks := true }, kinds := [], alts := [], laidByText := true, laidKinds := [.data], laidTests := true, laidLooks := .later }
def CalWeeksUptoCardSaid : Prop := Claim7.holds Tryd.pinned (.plain (OpenSpec.upto calWeeksSpec)) calWeeksUptoCard

/-- THE SECOND FORM's CARD OF 'larderlaw03.CalReads'. -/
def calReadsUptoCard : Claim7 := { stood := { row := calReadsUptoRow, standIns := [], harness := (true, "b91d5f6947c320cfc133c684d1e8e1e91ce2306f813f43b90646457154b5e2de"), looks := true }, kinds := [], alts := [], laidByText := true, laidKinds := [.data, .data, .data, .sentinel, .sentinel, .data], laidTests := true, laidLooks := .later }
def CalReadsUptoCardSaid : Prop := Claim7.holds Tryd.pinned (.plain (OpenSpec.upto calReadsSpec)) calReadsUptoCard
end Rows
end Go.Proofs.YtjjkfhpiapnjlacDoor
