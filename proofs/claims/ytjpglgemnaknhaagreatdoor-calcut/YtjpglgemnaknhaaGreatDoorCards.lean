/-
  DERIVED. GIVEN WITH THE SEED: THE CARDS: each row of YtjpglgemnaknhaaGreatDoorRows.lean that lists a variable, with what it lists TIED to the program's text (the seventh form; the later family's looks); each row that meets fmt, with fmt's text TOLD by the authors' own Lean function (tested against real Go, not proved from fmt's source: count such statements apart). THE CARD IS WHAT COUNTS. Prove the row's statement (the work); the ties are given (YtjpglgemnaknhaaGreatDoorTie.lean); close each card by the builder's one call (the guide's Derived/Test/ToyasCard.lean, 'card_holds'). Laid BY PROGRAM, IN A SANDBOX (cutbox-door.mjs). By AI agents, Wed Nov 11 2026. No macro, syntax, notation, axiom, sorry.
-/
import Derived.Test.YtjpglgemnaknhaaGreatDoorRows
import GoSem.ClaimSeven
namespace Go.Proofs.YtjpglgemnaknhaaGreatDoor
namespace Rows

/-- THE TIED CARD OF 'larderlaw03.CalCut'. -/
def calCutCard : Claim7 := { stood := { row := calCutRow, standIns := [], harness := (true, "f638464d585238e611f46a60cd6e698966efcbdeaea8330a70b174b46f7d2618"), looks := true }, kinds := [], alts := [], laidByText := true, laidKinds := [.data, .data, .data, .data, .sentinel, .sentinel, .data, .pinned], laidTests := true, laidLooks := .later }
def CalCutCardSaid : Prop := Claim7.holds Tryz.pinned (.plain (OpenSpec.ofChange calCutSpec)) calCutCard

/-- THE SECOND FORM's CARD OF 'larderlaw03.CalCut'. -/
def calCutUptoCard : Claim7 := { stood := { row := calCutUptoRow, standIns := [], harness := (true, "f638464d585238e611f46a60cd6e698966efcbdeaea8330a70b174b46f7d2618"), looks := true }, kinds := [], alts := [], laidByText := true, laidKinds := [.data, .data, .data, .data, .sentinel, .sentinel, .data, .pinned], laidTests := true, laidLooks := .later }
def CalCutUptoCardSaid : Prop := Claim7.holds Tryz.pinned (.plain (OpenSpec.upto calCutSpec)) calCutUptoCard
end Rows
end Go.Proofs.YtjpglgemnaknhaaGreatDoor
