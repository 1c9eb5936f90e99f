/-
  DERIVED. GIVEN WITH THE SEED: THE CARDS: each row of YtflnlmpfniommaaDoorRows.lean that lists a variable, with what it lists TIED to the program's text (the seventh form; the later family's looks); each row that meets fmt, with fmt's text TOLD by the authors' own Lean function (tested against real Go, not proved from fmt's source: count such statements apart). THE CARD IS WHAT COUNTS. Prove the row's statement (the work); the ties are given (YtflnlmpfniommaaDoorTie.lean); close each card by the builder's one call (the guide's Derived/Test/ToyasCard.lean, 'card_holds'). Laid BY PROGRAM, IN A SANDBOX (cutbox-door.mjs). By AI agents, Wed Nov 11 2026. No macro, syntax, notation, axiom, sorry.
-/
import Derived.Test.YtflnlmpfniommaaDoorRows
import GoSem.ClaimSeven
namespace Go.Proofs.YtflnlmpfniommaaDoor
namespace Rows

/-- THE TIED CARD OF 'larderlaw03.CalSpoken'. -/
def calSpokenCard : Claim7 := { stood := { row := calSpokenRow, standIns := [], harness := (true, "ebb3afbeb44cb89782a99ef119c3a0a6818781b0a8f50bb99f8d4a9dc5cdb6ea"), looks := true }, kinds := [], alts := [], laidByText := true, laidKinds := [.data, .data, .data, .sentinel, .sentinel], laidTests := true, laidLooks := .later }
def CalSpokenCardSaid : Prop := Claim7.holds Tryd.pinned (.plain (OpenSpec.ofChange calSpokenSpec)) calSpokenCard

/-- THE TIED CARD OF 'larderlaw03.CalSpans'. -/
def calSpansCard : Claim7 := { stood := { row := calSpansRow, standIns := [], harness := (true, "ebb3afbeb44cb89782a99ef119c3a0a6818781b0a8f50bb99f8d4a9dc5cdb6ea"), looks := true }, kinds := [], alts := [], laidByText := true, laidKinds := [.data, .data, .data, .sentinel, .sentinel], laidTests := true, laidLooks := .later }
def CalSpansCardSaid : Prop := Claim7.holds Tryd.pinned (.plain (OpenSpec.ofChange calSpansSpec)) calSpansCard

/-- THE TIED CARD OF 'larderlaw03.CalWalk'. -/
def calWalkCard : Claim7 := { stood := { row := calWalkRow, standIns := [], harness := (true, "ebb3afbeb44cb89782a99ef119c3a0a6818781b0a8f50bb99f8d4a9dc5cdb6ea"), looks := true }, kinds := [], alts := [], laidByText := true, laidKinds := [.data], laidTests := true, laidLooks := .later }
def CalWalkCardSaid : Prop := Claim7.holds Tryd.pinned (.plain (OpenSpec.ofChange calWalkSpec)) calWalkCard

/-- THE TIED CARD OF 'larderlaw03.CalEach'. -/
def calEachCard : Claim7 := { stood := { row := calEachRow, standIns := [], harness := (true, "ebb3afbeb44cb89782a99ef119c3a0a6818781b0a8f50bb99f8d4a9dc5cdb6ea"), looks := true }, kinds := [], alts := [], laidByText := true, laidKinds := [.data], laidTests := true, laidLooks := .later }
def CalEachCardSaid : Prop := Claim7.holds Tryd.pinned (.plain (OpenSpec.ofChange calEachSpec)) calEachCard

/-- THE TIED CARD OF 'larderlaw03.CalRound'. -/
def calRoundCard : Claim7 := { stood := { row := calRoundRow, standIns := [], harness := (true, "ebb3afbeb44cb89782a99ef119c3a0a6818781b0a8f50bb99f8d4a9dc5cdb6ea"), looks := true }, kinds := [], alts := [], laidByText := true, laidKinds := [.data, .data, .data, .sentinel, .sentinel, .data], laidTests := true, laidLooks := .later }
def CalRoundCardSaid : Prop := Claim7.holds Tryd.pinned (.plain (OpenSpec.ofChange calRoundSpec)) calRoundCard

/-- THE TIED CARD OF 'larderlaw03.CalReads'. -/
def calReadsCard : Claim7 := { stood := { row := calReadsRow, standIns := [], harness := (true, "ebb3afbeb44cb89782a99ef119c3a0a6818781b0a8f50bb99f8d4a9dc5cdb6ea"), looks := true }, kinds := [], alts := [], laidByText := true, laidKinds := [.data, .data, .data, .sentinel, .sentinel, .data], laidTests := true, laidLooks := .later }
def CalReadsCardSaid : Prop := Claim7.holds Tryd.pinned (.plain (OpenSpec.ofChange calReadsSpec)) calReadsCard

/-- THE SECOND FORM's CARD OF 'larderlaw03.CalSpoken'. -/
def calSpokenUptoCard : Claim7 := { stood := { row := calSpokenUptoRow, standIns := [], harness := (true, "ebb3afbeb44cb89782a99ef119c3a0a6818781b0a8f50bb99f8d4a9dc5cdb6ea"), looks := true }, kinds := [], alts := [], laidByText := true, laidKinds := [.data, .data, .data, .sentinel, .sentinel], laidTests := true, laidLooks := .later }
def CalSpokenUptoCardSaid : Prop := Claim7.holds Tryd.pinned (.plain (OpenSpec.upto calSpokenSpec)) calSpokenUptoCard

/-- THE SECOND FORM's CARD OF 'larderlaw03.CalSpans'. -/
def calSpansUptoCard : Claim7 := { stood := { row := calSpansUptoRow, standIns := [], harness := (true, "ebb3afbeb44cb89782a99ef119c3a0a6818781b0a8f50bb99f8d4a9dc5cdb6ea"), looks := true }, kinds := [], alts := [], laidByText := true, laidKinds := [.data, .data, .data, .sentinel, .sentinel], laidTests := true, laidLooks := .later }
def CalSpansUptoCardSaid : Prop := Claim7.holds Tryd.pinned (.plain (OpenSpec.upto calSpansSpec)) calSpansUptoCard

/-- THE SECOND FORM's CARD OF 'larderlaw03.CalWalk'. -/
def calWalkUptoCard : Claim7 := { stood := { row := calWalkUptoRow, standIns := [], harness := (true, "ebb3afbeb44cb89782a99ef119c3a0a6818781b0a8f50bb99f8d4a9dc5cdb6ea"), looks := true }, kinds := [], alts := [], laidByText := true, laidKinds := [.data], laidTests := true, laidLooks := .later }
def CalWalkUptoCardSaid : Prop := Claim7.holds Tryd.pinned (.plain (OpenSpec.upto calWalkSpec)) calWalkUptoCard

/-- THE SECOND FORM's CARD OF 'larderlaw03.CalEach'. -/
def calEachUptoCard : Claim7 := { stood := { row := calEachUptoRow, standIns := [], harness := (true, "ebb3afbeb44cb89782a99ef119c3a0a6818781b0a8f50bb99f8d4a9dc5cdb6ea"), looks := true }, kinds := [], alts := [], laidByText := true, laidKinds := [.data], laidTests := true, laidLooks := .later }
def CalEachUptoCardSaid : Prop := Claim7.holds Tryd.pinned (.plain (OpenSpec.upto calEachSpec)) calEachUptoCard

/-- THE SECOND FORM's CARD OF 'larderlaw03.CalRound'. -/
def calRoundUptoCard : Claim7 := { stood := { row := calRoundUptoRow, standIns := [], harness := (true, "ebb3afbeb44cb89782a99ef119c3a0a6818781b0a8f50bb99f8d4a9dc5cdb6ea"), looks := true }, kinds := [], alts := [], laidByText := true, laidKinds := [.data, .data, .data, .sentinel, .sentinel, .data], laidTests := true, laidLooks := .later }
def CalRoundUptoCardSaid : Prop := Claim7.holds Tryd.pinned (.plain (OpenSpec.upto calRoundSpec)) calRoundUptoCard

/-- THE SECOND FORM's CARD OF 'larderlaw03.CalReads'. -/
def calReadsUptoCard : Claim7 := { stood := { row := calReadsUptoRow, standIns := [], harness := (true, "ebb3afbeb44cb89782a99ef119c3a0a6818781b0a8f50bb99f8d4a9dc5cdb6ea"), looks := true }, kinds := [], alts := [], laidByText := true, laidKinds := [.data, .data, .data, .sentinel, .sentinel, .data], laidTests := true, laidLooks := .later }
def CalReadsUptoCardSaid : Prop := Claim7.holds Tryd.pinned (.plain (OpenSpec.upto calReadsSpec)) calReadsUptoCard
end Rows
end Go.Proofs.YtflnlmpfniommaaDoor
