/-
  DERIVED. GIVEN WITH THE SEED: THE CARDS: each row of YtghkfhbjfmdnmaaDoorRows.lean that lists a variable, with what it lists TIED to the program's text (the seventh form; the later family's looks); each row that meets fmt, with fmt's text TOLD by the authors' own Lean function (tested against real Go, not proved from fmt's source: count such statements apart). THE CARD IS WHAT COUNTS. Prove the row's statement (the work); the ties are given (YtghkfhbjfmdnmaaDoorTie.lean); close each card by the builder's one call (the guide's Derived/Test/ToyasCard.lean, 'card_holds'). Laid BY PROGRAM, IN A SANDBOX (cutbox-door.mjs). By AI agents, Wed Nov 11 2026. No macro, syntax, notation, axiom, sorry.
-/
import Derived.Test.YtghkfhbjfmdnmaaDoorRows
import GoSem.ClaimSeven
namespace Go.Proofs.YtghkfhbjfmdnmaaDoor
namespace Rows

/-- THE TIED CARD OF 'larderlaw10.WalFull'. -/
def walFullCard : Claim7 := { stood := { row := walFullRow, standIns := [], harness := (true, "0be1947b4f5bf0e64d39a4dbf679ddb52698411efe6cbc8b5b63083c8bbd2904"), looks := true }, kinds := [], alts := [], laidByText := true, laidKinds := [.data], laidTests := true, laidLooks := .later }
def WalFullCardSaid : Prop := Claim7.holds Tryd.pinned (.plain (OpenSpec.ofChange walFullSpec)) walFullCard

/-- THE TIED CARD OF 'larderlaw10.WalTight'. -/
def walTightCard : Claim7 := { stood := { row := walTightRow, standIns := [], harness := (true, "0be1947b4f5bf0e64d39a4dbf679ddb52698411efe6cbc8b5b63083c8bbd2904"), looks := true }, kinds := [], alts := [], laidByText := true, laidKinds := [.data], laidTests := true, laidLooks := .later }
def WalTightCardSaid : Prop := Claim7.holds Tryd.pinned (.plain (OpenSpec.ofChange walTightSpec)) walTightCard

/-- THE TIED CARD OF 'larderlaw10.WalKnown'. -/
def walKnownCard : Claim7 := { stood := { row := walKnownRow, standIns := [], harness := (true, "0be1947b4f5bf0e64d39a4dbf679ddb52698411efe6cbc8b5b63083c8bbd2904"), looks := true }, kinds := [], alts := [], laidByText := true, laidKinds := [.data], laidTests := true, laidLooks := .later }
def WalKnownCardSaid : Prop := Claim7.holds Tryd.pinned (.plain (OpenSpec.ofChange walKnownSpec)) walKnownCard

/-- THE TIED CARD OF 'larderlaw10.WalNil'. -/
def walNilCard : Claim7 := { stood := { row := walNilRow, standIns := [], harness := (true, "0be1947b4f5bf0e64d39a4dbf679ddb52698411efe6cbc8b5b63083c8bbd2904"), looks := true }, kinds := [], alts := [], laidByText := true, laidKinds := [.data], laidTests := true, laidLooks := .later }
def WalNilCardSaid : Prop := Claim7.holds Tryd.pinned (.plain (OpenSpec.ofChange walNilSpec)) walNilCard

/-- THE SECOND FORM's CARD OF 'larderlaw10.WalFull'. -/
def walFullUptoCard : Claim7 := { stood := { row := walFullUptoRow, standIns := [], harness := (true, "0be1947b4f5bf0e64d39a4dbf679ddb52698411efe6cbc8b5b63083c8bbd2904"), looks := true }, kinds := [], alts := [], laidByText := true, laidKinds := [.data], laidTests := true, laidLooks := .later }
def WalFullUptoCardSaid : Prop := Claim7.holds Tryd.pinned (.plain (OpenSpec.upto walFullSpec)) walFullUptoCard

/-- THE SECOND FORM's CARD OF 'larderlaw10.WalTight'. -/
def walTightUptoCard : Claim7 := { stood := { row := walTightUptoRow, standIns := [], harness := (true, "0be1947b4f5bf0e64d39a4dbf679ddb52698411efe6cbc8b5b63083c8bbd2904"), looks := true }, kinds := [], alts := [], laidByText := true, laidKinds := [.data], laidTests := true, laidLooks := .later }
def WalTightUptoCardSaid : Prop := Claim7.holds Tryd.pinned (.plain (OpenSpec.upto walTightSpec)) walTightUptoCard

/-- THE SECOND FORM's CARD OF 'larderlaw10.WalKnown'. -/
def walKnownUptoCard : Claim7 := { stood := { row := walKnownUptoRow, standIns := [], harness := (true, "0be1947b4f5bf0e64d39a4dbf679ddb52698411efe6cbc8b5b63083c8bbd2904"), looks := true }, kinds := [], alts := [], laidByText := true, laidKinds := [.data], laidTests := true, laidLooks := .later }
def WalKnownUptoCardSaid : Prop := Claim7.holds Tryd.pinned (.plain (OpenSpec.upto walKnownSpec)) walKnownUptoCard

/-- THE SECOND FORM's CARD OF 'larderlaw10.WalNil'. -/
def walNilUptoCard : Claim7 := { stood := { row := walNilUptoRow, standIns := [], harness := (true, "0be1947b4f5bf0e64d39a4dbf679ddb52698411efe6cbc8b5b63083c8bbd2904"), looks := true }, kinds := [], alts := [], laidByText := true, laidKinds := [.data], laidTests := true, laidLooks := .later }
def WalNilUptoCardSaid : Prop := Claim7.holds Tryd.pinned (.plain (OpenSpec.upto walNilSpec)) walNilUptoCard
end Rows
end Go.Proofs.YtghkfhbjfmdnmaaDoor
