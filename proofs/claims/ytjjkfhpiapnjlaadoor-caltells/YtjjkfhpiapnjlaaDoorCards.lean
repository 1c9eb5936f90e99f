/-
  DERIVED. GIVEN WITH THE SEED: THE CARDS: each row of YtjjkfhpiapnjlaaDoorRows.lean that lists a variable, with what it lists TIED to the program's text (the seventh form; the later family's looks); each row that meets fmt, with fmt's text TOLD by the authors' own Lean function (tested against real Go, not proved from fmt's source: count such statements apart). THE CARD IS WHAT COUNTS. Prove the row's statement (the work); the ties are given (YtjjkfhpiapnjlaaDoorTie.lean); close each card by the builder's one call (the guide's Derived/Test/ToyasCard.lean, 'card_holds'). Laid BY PROGRAM, IN A SANDBOX (cutbox-door.mjs). By AI agents, Wed Nov 11 2026. No macro, syntax, notation, axiom, sorry.
-/
import Derived.Test.YtjjkfhpiapnjlaaDoorRows
import GoSem.ClaimSeven
namespace Go.Proofs.YtjjkfhpiapnjlaaDoor
namespace Rows

/-- THE TIED CARD OF 'larderlaw03.CalSpoken'. -/
def calSpokenCard : Claim7 := { stood := { row := calSpokenRow, standIns := [], harness := (true, "d6297a8eb9eae8fac208698b8e0dc4db906b4edce63542188d45bc6600bbb388"), looks := true }, kinds := [], alts := [], laidByText := true, laidKinds := [.data, .data, .data, .sentinel, .sentinel], laidTests := true, laidLooks := .later }
def CalSpokenCardSaid : Prop := Claim7.holds Tryd.pinned (.plain (OpenSpec.ofChange calSpokenSpec)) calSpokenCard

/-- THE TIED CARD OF 'larderlaw03.CalTells'. -/
def calTellsCard : Claim7 := { stood := { row := calTellsRow, standIns := [], harness := (true, "d6297a8eb9eae8fac208698b8e0dc4db906b4edce63542188d45bc6600bbb388"), looks := true }, kinds := [], alts := [], laidByText := true, laidKinds := [.data, .data, .data], laidTests := true, laidLooks := .later }
def CalTellsCardSaid : Prop := Claim7.holds Tryd.pinned (.plain (OpenSpec.ofChange calTellsSpec)) calTellsCard

/-- THE TIED CARD OF 'larderlaw03.CalSpans'. -/
def calSpansCard : Claim7 := { stood := { row := calSpansRow, standIns := [], harness := (true, "d6297a8eb9eae8fac208698b8e0dc4db906b4edce63542188d45bc6600bbb388"), looks := true }, kinds := [], alts := [], laidByText := true, laidKinds := [.data, .data, .data, .sentinel, .sentinel], laidTests := true, laidLooks := .later }
def CalSpansCardSaid : Prop := Claim7.holds Tryd.pinned (.plain (OpenSpec.ofChange calSpansSpec)) calSpansCard

/-- THE TIED CARD OF 'larderlaw03.CalBack'. -/
def calBackCard : Claim7 := { stood := { row := calBackRow, standIns := [], harness := (true, "d6297a8eb9eae8fac208698b8e0dc4db906b4edce63542188d45bc6600bbb388"), looks := true }, kinds := [], alts := [], laidByText := true, laidKinds := [.data], laidTests := true, laidLooks := .later }
def CalBackCardSaid : Prop := Claim7.holds Tryd.pinned (.plain (OpenSpec.ofChange calBackSpec)) calBackCard

/-- THE TIED CARD OF 'larderlaw03.CalForth'. -/
def calForthCard : Claim7 := { stood := { row := calForthRow, standIns := [], harness := (true, "d6297a8eb9eae8fac208698b8e0dc4db906b4edce63542188d45bc6600bbb388"), looks := true }, kinds := [], alts := [], laidByText := true, laidKinds := [.data], laidTests := true, laidLooks := .later }
def CalForthCardSaid : Prop := Claim7.holds Tryd.pinned (.plain (OpenSpec.ofChange calForthSpec)) calForthCard

/-- THE TIED CARD OF 'larderlaw03.CalWalk'. -/
def calWalkCard : Claim7 := { stood := { row := calWalkRow, standIns := [], harness := (true, "d6297a8eb9eae8fac208698b8e0dc4db906b4edce63542188d45bc6600bbb388"), looks := true }, kinds := [], alts := [], laidByText := true, laidKinds := [.data], laidTests := true, laidLooks := .later }
def CalWalkCardSaid : Prop := Claim7.holds Tryd.pinned (.plain (OpenSpec.ofChange calWalkSpec)) calWalkCard

/-- THE SECOND FORM's CARD OF 'larderlaw03.CalSpoken'. -/
def calSpokenUptoCard : Claim7 := { stood := { row := calSpokenUptoRow, standIns := [], harness := (true, "d6297a8eb9eae8fac208698b8e0dc4db906b4edce63542188d45bc6600bbb388"), looks := true }, kinds := [], alts := [], laidByText := true, laidKinds := [.data, .data, .data, .sentinel, .sentinel], laidTests := true, laidLooks := .later }
def CalSpokenUptoCardSaid : Prop := Claim7.holds Tryd.pinned (.plain (OpenSpec.upto calSpokenSpec)) calSpokenUptoCard

/-- THE SECOND FORM's CARD OF 'larderlaw03.CalTells'. -/
def calTellsUptoCard : Claim7 := { stood := { row := calTellsUptoRow, standIns := [], harness := (true, "d6297a8eb9eae8fac208698b8e0dc4db906b4edce63542188d45bc6600bbb388"), looks := true }, kinds := [], alts := [], laidByText := true, laidKinds := [.data, .data, .data], laidTests := true, laidLooks := .later }
def CalTellsUptoCardSaid : Prop := Claim7.holds Tryd.pinned (.plain (OpenSpec.upto calTellsSpec)) calTellsUptoCard

/-- THE SECOND FORM's CARD OF 'larderlaw03.CalSpans'. -/
def calSpansUptoCard : Claim7 := { stood := { row := calSpansUptoRow, standIns := [], harness := (true, "d6297a8eb9eae8fac208698b8e0dc4db906b4edce63542188d45bc6600bbb388"), looks := true }, kinds := [], alts := [], laidByText := true, laidKinds := [.data, .data, .data, .sentinel, .sentinel], laidTests := true, laidLooks := .later }
def CalSpansUptoCardSaid : Prop := Claim7.holds Tryd.pinned (.plain (OpenSpec.upto calSpansSpec)) calSpansUptoCard

/-- THE SECOND FORM's CARD OF 'larderlaw03.CalBack'. -/
def calBackUptoCard : Claim7 := { stood := { row := calBackUptoRow, standIns := [], harness := (true, "d6297a8eb9eae8fac208698b8e0dc4db906b4edce63542188d45bc6600bbb388"), looks := true }, kinds := [], alts := [], laidByText := true, laidKinds := [.data], laidTests := true, laidLooks := .later }
def CalBackUptoCardSaid : Prop := Claim7.holds Tryd.pinned (.plain (OpenSpec.upto calBackSpec)) calBackUptoCard

/-- THE SECOND FORM's CARD OF 'larderlaw03.CalForth'. -/
def calForthUptoCard : Claim7 := { stood := { row := calForthUptoRow, standIns := [], harness := (true, "d6297a8eb9eae8fac208698b8e0dc4db906b4edce63542188d45bc6600bbb388"), looks := true }, kinds := [], alts := [], laidByText := true, laidKinds := [.data], laidTests := true, laidLooks := .later }
def CalForthUptoCardSaid : Prop := Claim7.holds Tryd.pinned (.plain (OpenSpec.upto calForthSpec)) calForthUptoCard

/-- THE SECOND FORM's CARD OF 'larderlaw03.CalWalk'. -/
def calWalkUptoCard : Claim7 := { stood := { row := calWalkUptoRow, standIns := [], harness := (true, "d6297a8eb9eae8fac208698b8e0dc4db906b4edce63542188d45bc6600bbb388"), looks := true }, kinds := [], alts := [], laidByText := true, laidKinds := [.data], laidTests := true, laidLooks := .later }
def CalWalkUptoCardSaid : Prop := Claim7.holds Tryd.pinned (.plain (OpenSpec.upto calWalkSpec)) calWalkUptoCard
end Rows
end Go.Proofs.YtjjkfhpiapnjlaaDoor
