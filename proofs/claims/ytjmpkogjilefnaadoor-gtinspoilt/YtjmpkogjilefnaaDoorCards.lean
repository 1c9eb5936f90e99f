/-
  DERIVED. GIVEN WITH THE SEED: THE CARDS: each row of YtjmpkogjilefnaaDoorRows.lean that lists a variable, with what it lists TIED to the program's text (the seventh form; the later family's looks); each row that meets fmt, with fmt's text TOLD by the authors' own Lean function (tested against real Go, not proved from fmt's source: count such statements apart). THE CARD IS WHAT COUNTS. Prove the row's statement (the work); the ties are given (YtjmpkogjilefnaaDoorTie.lean); close each card by the builder's one call (the guide's Derived/Test/ToyasCard.lean, 'card_holds'). Laid BY PROGRAM, IN A SANDBOX (cutbox-door.mjs). By AI agents, Wed Nov 11 2026. No macro, syntax, notation, axiom, sorry.
-/
import Derived.Test.YtjmpkogjilefnaaDoorRows
import GoSem.ClaimSeven
namespace Go.Proofs.YtjmpkogjilefnaaDoor
namespace Rows

/-- THE TIED CARD OF 'larderlaw02.GtinShown'. -/
def gtinShownCard : Claim7 := { stood := { row := gtinShownRow, standIns := [], harness := (true, "e274958deaec794dcd796ba25f314dda9ec9ffb967d0976f61b84e23c22bd74b"), looks := false }, kinds := [], alts := [], laidByText := true, laidKinds := [.data], laidTests := true, laidLooks := .later }
def GtinShownCardSaid : Prop := Claim7.holds Tryd.pinned (.plain (OpenSpec.ofChange gtinShownSpec)) gtinShownCard

/-- THE TIED CARD OF 'larderlaw02.GtinParses'. -/
def gtinParsesCard : Claim7 := { stood := { row := gtinParsesRow, standIns := [], harness := (true, "e274958deaec794dcd796ba25f314dda9ec9ffb967d0976f61b84e23c22bd74b"), looks := false }, kinds := [], alts := [], laidByText := true, laidKinds := [.data], laidTests := true, laidLooks := .later }
def GtinParsesCardSaid : Prop := Claim7.holds Tryd.pinned (.plain (OpenSpec.ofChange gtinParsesSpec)) gtinParsesCard

/-- THE TIED CARD OF 'larderlaw02.GtinSpoilt'. -/
def gtinSpoiltCard : Claim7 := { stood := { row := gtinSpoiltRow, standIns := [], harness := (true, "e274958deaec794dcd796ba25f314dda9ec9ffb967d0976f61b84e23c22bd74b"), looks := false }, kinds := [], alts := [], laidByText := true, laidKinds := [.data], laidTests := true, laidLooks := .later }
def GtinSpoiltCardSaid : Prop := Claim7.holds Tryd.pinned (.plain (OpenSpec.ofChange gtinSpoiltSpec)) gtinSpoiltCard

/-- THE TIED CARD OF 'larderlaw02.GtinBack'. -/
def gtinBackCard : Claim7 := { stood := { row := gtinBackRow, standIns := [], harness := (true, "e274958deaec794dcd796ba25f314dda9ec9ffb967d0976f61b84e23c22bd74b"), looks := false }, kinds := [], alts := [], laidByText := true, laidKinds := [.data], laidTests := true, laidLooks := .later }
def GtinBackCardSaid : Prop := Claim7.holds Tryd.pinned (.plain (OpenSpec.ofChange gtinBackSpec)) gtinBackCard

/-- THE TIED CARD OF 'larderlaw02.GtinPrints'. -/
def gtinPrintsCard : Claim7 := { stood := { row := gtinPrintsRow, standIns := [], harness := (true, "e274958deaec794dcd796ba25f314dda9ec9ffb967d0976f61b84e23c22bd74b"), looks := false }, kinds := [], alts := [], laidByText := true, laidKinds := [.data], laidTests := true, laidLooks := .later }
def GtinPrintsCardSaid : Prop := Claim7.holds Tryd.pinned (.plain (OpenSpec.ofChange gtinPrintsSpec)) gtinPrintsCard

/-- THE TIED CARD OF 'larderlaw02.GtinRound'. -/
def gtinRoundCard : Claim7 := { stood := { row := gtinRoundRow, standIns := [], harness := (true, "e274958deaec794dcd796ba25f314dda9ec9ffb967d0976f61b84e23c22bd74b"), looks := false }, kinds := [], alts := [], laidByText := true, laidKinds := [.data], laidTests := true, laidLooks := .later }
def GtinRoundCardSaid : Prop := Claim7.holds Tryd.pinned (.plain (OpenSpec.ofChange gtinRoundSpec)) gtinRoundCard

/-- THE SECOND FORM's CARD OF 'larderlaw02.GtinShown'. -/
def gtinShownUptoCard : Claim7 := { stood := { row := gtinShownUptoRow, standIns := [], harness := (true, "e274958deaec794dcd796ba25f314dda9ec9ffb967d0976f61b84e23c22bd74b"), looks := false }, kinds := [], alts := [], laidByText := true, laidKinds := [.data], laidTests := true, laidLooks := .later }
def GtinShownUptoCardSaid : Prop := Claim7.holds Tryd.pinned (.plain (OpenSpec.upto gtinShownSpec)) gtinShownUptoCard

/-- THE SECOND FORM's CARD OF 'larderlaw02.GtinParses'. -/
def gtinParsesUptoCard : Claim7 := { stood := { row := gtinParsesUptoRow, standIns := [], harness := (true, "e274958deaec794dcd796ba25f314dda9ec9ffb967d0976f61b84e23c22bd74b"), looks := false }, kinds := [], alts := [], laidByText := true, laidKinds := [.data], laidTests := true, laidLooks := .later }
def GtinParsesUptoCardSaid : Prop := Claim7.holds Tryd.pinned (.plain (OpenSpec.upto gtinParsesSpec)) gtinParsesUptoCard

/-- THE SECOND FORM's CARD OF 'larderlaw02.GtinSpoilt'. -/
def gtinSpoiltUptoCard : Claim7 := { stood := { row := gtinSpoiltUptoRow, standIns := [], harness := (true, "e274958deaec794dcd796ba25f314dda9ec9ffb967d0976f61b84e23c22bd74b"), looks := false }, kinds := [], alts := [], laidByText := true, laidKinds := [.data], laidTests := true, laidLooks := .later }
def GtinSpoiltUptoCardSaid : Prop := Claim7.holds Tryd.pinned (.plain (OpenSpec.upto gtinSpoiltSpec)) gtinSpoiltUptoCard

/-- THE SECOND FORM's CARD OF 'larderlaw02.GtinBack'. -/
def gtinBackUptoCard : Claim7 := { stood := { row := gtinBackUptoRow, standIns := [], harness := (true, "e274958deaec794dcd796ba25f314dda9ec9ffb967d0976f61b84e23c22bd74b"), looks := false }, kinds := [], alts := [], laidByText := true, laidKinds := [.data], laidTests := true, laidLooks := .later }
def GtinBackUptoCardSaid : Prop := Claim7.holds Tryd.pinned (.plain (OpenSpec.upto gtinBackSpec)) gtinBackUptoCard

/-- THE SECOND FORM's CARD OF 'larderlaw02.GtinPrints'. -/
def gtinPrintsUptoCard : Claim7 := { stood := { row := gtinPrintsUptoRow, standIns := [], harness := (true, "e274958deaec794dcd796ba25f314dda9ec9ffb967d0976f61b84e23c22bd74b"), looks := false }, kinds := [], alts := [], laidByText := true, laidKinds := [.data], laidTests := true, laidLooks := .later }
def GtinPrintsUptoCardSaid : Prop := Claim7.holds Tryd.pinned (.plain (OpenSpec.upto gtinPrintsSpec)) gtinPrintsUptoCard

/-- THE SECOND FORM's CARD OF 'larderlaw02.GtinRound'. -/
def gtinRoundUptoCard : Claim7 := { stood := { row := gtinRoundUptoRow, standIns := [], harness := (true, "e274958deaec794dcd796ba25f314dda9ec9ffb967d0976f61b84e23c22bd74b"), looks := false }, kinds := [], alts := [], laidByText := true, laidKinds := [.data], laidTests := true, laidLooks := .later }
def GtinRoundUptoCardSaid : Prop := Claim7.holds Tryd.pinned (.plain (OpenSpec.upto gtinRoundSpec)) gtinRoundUptoCard
end Rows
end Go.Proofs.YtjmpkogjilefnaaDoor
