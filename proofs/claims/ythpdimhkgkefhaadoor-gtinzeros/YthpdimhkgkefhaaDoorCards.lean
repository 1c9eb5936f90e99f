/-
  DERIVED. GIVEN WITH THE SEED: THE CARDS: each row of YthpdimhkgkefhaaDoorRows.lean that lists a variable, with what it lists TIED to the program's text (the seventh form; the later family's looks); each row that meets fmt, with fmt's text TOLD by the authors' own Lean function (tested against real Go, not proved from fmt's source: count such statements apart). THE CARD IS WHAT COUNTS. Prove the row's statement (the work); the ties are given (YthpdimhkgkefhaaDoorTie.lean); close each card by the builder's one call (the guide's Derived/Test/ToyasCard.lean, 'card_holds'). Laid BY PROGRAM, IN A SANDBOX (cutbox-door.mjs). By AI agents, Wed Nov 11 2026. No macro, syntax, notation, axiom, sorry.
-/
import Derived.Test.YthpdimhkgkefhaaDoorRows
import GoSem.ClaimSeven
namespace Go.Proofs.YthpdimhkgkefhaaDoor
namespace Rows

/-- THE TIED CARD OF 'larderlaw02.GtinChecks'. -/
def gtinChecksCard : Claim7 := { stood := { row := gtinChecksRow, standIns := [], harness := (true, "51f25982abdd88858bd65d7f4a5f76078fd6f17cd489cd1580d6a6b888d9674e"), looks := false }, kinds := [], alts := [], laidByText := true, laidKinds := [.data, .pinned], laidTests := true, laidLooks := .later }
def GtinChecksCardSaid : Prop := Claim7.holds Tryd.pinned (.plain (OpenSpec.ofChange gtinChecksSpec)) gtinChecksCard

/-- THE TIED CARD OF 'larderlaw02.GtinZeros'. -/
def gtinZerosCard : Claim7 := { stood := { row := gtinZerosRow, standIns := [], harness := (true, "51f25982abdd88858bd65d7f4a5f76078fd6f17cd489cd1580d6a6b888d9674e"), looks := false }, kinds := [], alts := [], laidByText := true, laidKinds := [.data, .pinned], laidTests := true, laidLooks := .later }
def GtinZerosCardSaid : Prop := Claim7.holds Tryd.pinned (.plain (OpenSpec.ofChange gtinZerosSpec)) gtinZerosCard

/-- THE SECOND FORM's CARD OF 'larderlaw02.GtinChecks'. -/
def gtinChecksUptoCard : Claim7 := { stood := { row := gtinChecksUptoRow, standIns := [], harness := (true, "51f25982abdd88858bd65d7f4a5f76078fd6f17cd489cd1580d6a6b888d9674e"), looks := false }, kinds := [], alts := [], laidByText := true, laidKinds := [.data, .pinned], laidTests := true, laidLooks := .later }
def GtinChecksUptoCardSaid : Prop := Claim7.holds Tryd.pinned (.plain (OpenSpec.upto gtinChecksSpec)) gtinChecksUptoCard

/-- THE SECOND FORM's CARD OF 'larderlaw02.GtinZeros'. -/
def gtinZerosUptoCard : Claim7 := { stood := { row := gtinZerosUptoRow, standIns := [], harness := (true, "51f25982abdd88858bd65d7f4a5f76078fd6f17cd489cd1580d6a6b888d9674e"), looks := false }, kinds := [], alts := [], laidByText := true, laidKinds := [.data, .pinned], laidTests := true, laidLooks := .later }
def GtinZerosUptoCardSaid : Prop := Claim7.holds Tryd.pinned (.plain (OpenSpec.upto gtinZerosSpec)) gtinZerosUptoCard
end Rows
end Go.Proofs.YthpdimhkgkefhaaDoor
