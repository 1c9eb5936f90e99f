/-
  DERIVED. GIVEN WITH THE SEED: THE CARDS: each row of YtmndpeknebjmiaaDoorRows.lean that lists a variable, with what it lists TIED to the program's text (the seventh form; the later family's looks); each row that meets fmt, with fmt's text TOLD by the authors' own Lean function (tested against real Go, not proved from fmt's source: count such statements apart). THE CARD IS WHAT COUNTS. Prove the row's statement (the work); the ties are given (YtmndpeknebjmiaaDoorTie.lean); close each card by the builder's one call (the guide's Derived/Test/ToyasCard.lean, 'card_holds'). Laid BY PROGRAM, IN A SANDBOX (cutbox-door.mjs). By AI agents, Wed Nov 11 2026. No macro, syntax, notation, axiom, sorry.
-/
import Derived.Test.YtmndpeknebjmiaaDoorRows
import GoSem.ClaimSeven
namespace Go.Proofs.YtmndpeknebjmiaaDoor
namespace Rows

/-- THE TIED CARD OF 'larderlaw03.CalWalk'. -/
def calWalkCard : Claim7 := { stood := { row := calWalkRow, standIns := [], harness := (true, "93e4d84501136837f649e5baab230e2bf8418f8b3b7777209243ac8ebe446503"), looks := false }, kinds := [], alts := [], laidByText := true, laidKinds := [.data], laidTests := true, laidLooks := .later }
def CalWalkCardSaid : Prop := Claim7.holds Tryd.pinned (.plain (OpenSpec.ofChange calWalkSpec)) calWalkCard

/-- THE TIED CARD OF 'larderlaw03.CalEach'. -/
def calEachCard : Claim7 := { stood := { row := calEachRow, standIns := [], harness := (true, "93e4d84501136837f649e5baab230e2bf8418f8b3b7777209243ac8ebe446503"), looks := false }, kinds := [], alts := [], laidByText := true, laidKinds := [.data], laidTests := true, laidLooks := .later }
def CalEachCardSaid : Prop := Claim7.holds Tryd.pinned (.plain (OpenSpec.ofChange calEachSpec)) calEachCard

/-- THE TIED CARD OF 'larderlaw03.CalShop'. -/
def calShopCard : Claim7 := { stood := { row := calShopRow, standIns := [], harness := (true, "93e4d84501136837f649e5baab230e2bf8418f8b3b7777209243ac8ebe446503"), looks := false }, kinds := [], alts := [], laidByText := true, laidKinds := [.data], laidTests := true, laidLooks := .later }
def CalShopCardSaid : Prop := Claim7.holds Tryd.pinned (.plain (OpenSpec.ofChange calShopSpec)) calShopCard

/-- THE TIED CARD OF 'larderlaw03.CalOpens'. -/
def calOpensCard : Claim7 := { stood := { row := calOpensRow, standIns := [], harness := (true, "93e4d84501136837f649e5baab230e2bf8418f8b3b7777209243ac8ebe446503"), looks := false }, kinds := [], alts := [], laidByText := true, laidKinds := [.data, .data], laidTests := true, laidLooks := .later }
def CalOpensCardSaid : Prop := Claim7.holds Tryd.pinned (.plain (OpenSpec.ofChange calOpensSpec)) calOpensCard

/-- THE SECOND FORM's CARD OF 'larderlaw03.CalWalk'. -/
def calWalkUptoCard : Claim7 := { stood := { row := calWalkUptoRow, standIns := [], harness := (true, "93e4d84501136837f649e5baab230e2bf8418f8b3b7777209243ac8ebe446503"), looks := false }, kinds := [], alts := [], laidByText := true, laidKinds := [.data], laidTests := true, laidLooks := .later }
def CalWalkUptoCardSaid : Prop := Claim7.holds Tryd.pinned (.plain (OpenSpec.upto calWalkSpec)) calWalkUptoCard

/-- THE SECOND FORM's CARD OF 'larderlaw03.CalEach'. -/
def calEachUptoCard : Claim7 := { stood := { row := calEachUptoRow, standIns := [], harness := (true, "93e4d84501136837f649e5baab230e2bf8418f8b3b7777209243ac8ebe446503"), looks := false }, kinds := [], alts := [], laidByText := true, laidKinds := [.data], laidTests := true, laidLooks := .later }
def CalEachUptoCardSaid : Prop := Claim7.holds Tryd.pinned (.plain (OpenSpec.upto calEachSpec)) calEachUptoCard

/-- THE SECOND FORM's CARD OF 'larderlaw03.CalShop'. -/
def calShopUptoCard : Claim7 := { stood := { row := calShopUptoRow, standIns := [], harness := (true, "93e4d84501136837f649e5baab230e2bf8418f8b3b7777209243ac8ebe446503"), looks := false }, kinds := [], alts := [], laidByText := true, laidKinds := [.data], laidTests := true, laidLooks := .later }
def CalShopUptoCardSaid : Prop := Claim7.holds Tryd.pinned (.plain (OpenSpec.upto calShopSpec)) calShopUptoCard

/-- THE SECOND FORM's CARD OF 'larderlaw03.CalOpens'. -/
def calOpensUptoCard : Claim7 := { stood := { row := calOpensUptoRow, standIns := [], harness := (true, "93e4d84501136837f649e5baab230e2bf8418f8b3b7777209243ac8ebe446503"), looks := false }, kinds := [], alts := [], laidByText := true, laidKinds := [.data, .data], laidTests := true, laidLooks := .later }
def CalOpensUptoCardSaid : Prop := Claim7.holds Tryd.pinned (.plain (OpenSpec.upto calOpensSpec)) calOpensUptoCard
end Rows
end Go.Proofs.YtmndpeknebjmiaaDoor
