/-
  DERIVED. GIVEN WITH THE SEED: THE CARDS: each row of YtpplkoilpblpkaaDoorRows.lean that lists a variable, with what it lists TIED to the program's text (the seventh form; the later family's looks); each row that meets fmt, with fmt's text TOLD by the authors' own Lean function (tested against real Go, not proved from fmt's source: count such statements apart). THE CARD IS WHAT COUNTS. Prove the row's statement (the work); the ties are given (YtpplkoilpblpkaaDoorTie.lean); close each card by the builder's one call (the guide's Derived/Test/ToyasCard.lean, 'card_holds'). Laid BY PROGRAM, IN A SANDBOX (cutbox-door.mjs). By AI agents, Wed Nov 11 2026. No macro, syntax, notation, axiom, sorry.
-/
import Derived.Test.YtpplkoilpblpkaaDoorRows
import GoSem.ClaimSeven
namespace Go.Proofs.YtpplkoilpblpkaaDoor
namespace Rows

/-- THE TIED CARD OF 'larderlaw02.GtinOwn'. -/
def gtinOwnCard : Claim7 := { stood := { row := gtinOwnRow, standIns := [], harness := (true, "b70ac7e1ee619e3c57f5bdb32837ca37059c64bf1b89e4ad29af03795c26657a"), looks := false }, kinds := [], alts := [], laidByText := true, laidKinds := [.data], laidTests := true, laidLooks := .later }
def GtinOwnCardSaid : Prop := Claim7.holds Tryd.pinned (.plain (OpenSpec.ofChange gtinOwnSpec)) gtinOwnCard

/-- THE SECOND FORM's CARD OF 'larderlaw02.GtinOwn'. -/
def gtinOwnUptoCard : Claim7 := { stood := { row := gtinOwnUptoRow, standIns := [], harness := (true, "b70ac7e1ee619e3c57f5bdb32837ca37059c64bf1b89e4ad29af03795c26657a"), looks := false }, kinds := [], alts := [], laidByText := true, laidKinds := [.data], laidTests := true, laidLooks := .later }
def GtinOwnUptoCardSaid : Prop := Claim7.holds Tryd.pinned (.plain (OpenSpec.upto gtinOwnSpec)) gtinOwnUptoCard
end Rows
end Go.Proofs.YtpplkoilpblpkaaDoor
