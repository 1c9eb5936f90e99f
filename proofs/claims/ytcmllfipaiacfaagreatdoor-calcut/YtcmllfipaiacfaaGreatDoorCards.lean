/-
  DERIVED. GIVEN WITH THE SEED: THE CARDS: each row of YtcmllfipaiacfaaGreatDoorRows.lean that lists a variable, with what it lists TIED to the program's text (the seventh form; the later family's looks); each row that meets fmt, with fmt's text TOLD by the authors' own Lean function (tested against real Go, not proved from fmt's source: count such statements apart). THE CARD IS WHAT COUNTS. Prove the row's statement (the work); the ties are given (YtcmllfipaiacfaaGreatDoorTie.lean); close each card by the builder's one call (the guide's Derived/Test/ToyasCard.lean, 'card_holds'). Laid BY PROGRAM, IN A SANDBOX (cutbox-door.mjs). By AI agents, Wed Nov 11 2026. No macro, syntax, notation, axiom, sorry.
-/
import Derived.Test.YtcmllfipaiacfaaGreatDoorRows
import GoSem.ClaimSeven
namespace Go.Proofs.YtcmllfipaiacfaaGreatDoor
namespace Rows

/-- THE TIED CARD OF 'larderlaw03.CalInstants'. -/
def calInstantsCard : Claim7 := { stood := { row := calInstantsRow, standIns := [], harness := (true, "b93e7ccfd7e58faf6fba56e7bbb1e0fa13d6ac0b7b4d99cbdca4df91f704a827"), looks := true }, kinds := [], alts := [], laidByText := true, laidKinds := [.data, .data, .data, .data, .sentinel, .sentinel, .data, .pinned], laidTests := true, laidLooks := .later }
def CalInstantsCardSaid : Prop := Claim7.holds Tryz.pinned (.plain (OpenSpec.ofChange calInstantsSpec)) calInstantsCard

/-- THE TIED CARD OF 'larderlaw03.CalClock'. -/
def calClockCard : Claim7 := { stood := { row := calClockRow, standIns := [], harness := (true, "b93e7ccfd7e58faf6fba56e7bbb1e0fa13d6ac0b7b4d99cbdca4df91f704a827"), looks := true }, kinds := [], alts := [], laidByText := true, laidKinds := [.data, .data, .data, .data, .sentinel, .sentinel, .data, .pinned], laidTests := true, laidLooks := .later }
def CalClockCardSaid : Prop := Claim7.holds Tryz.pinned (.plain (OpenSpec.ofChange calClockSpec)) calClockCard

/-- THE TIED CARD OF 'larderlaw03.CalMidnight'. -/
def calMidnightCard : Claim7 := { stood := { row := calMidnightRow, standIns := [], harness := (true, "b93e7ccfd7e58faf6fba56e7bbb1e0fa13d6ac0b7b4d99cbdca4df91f704a827"), looks := true }, kinds := [], alts := [], laidByText := true, laidKinds := [.data, .data, .data, .data, .sentinel, .sentinel, .data, .pinned], laidTests := true, laidLooks := .later }
def CalMidnightCardSaid : Prop := Claim7.holds Tryz.pinned (.plain (OpenSpec.ofChange calMidnightSpec)) calMidnightCard

/-- THE TIED CARD OF 'larderlaw03.CalCut'. -/
def calCutCard : Claim7 := { stood := { row := calCutRow, standIns := [], harness := (true, "b93e7ccfd7e58faf6fba56e7bbb1e0fa13d6ac0b7b4d99cbdca4df91f704a827"), looks := true }, kinds := [], alts := [], laidByText := true, laidKinds := [.data, .data, .data, .data, .sentinel, .sentinel, .data, .pinned], laidTests := true, laidLooks := .later }
def CalCutCardSaid : Prop := Claim7.holds Tryz.pinned (.plain (OpenSpec.ofChange calCutSpec)) calCutCard

/-- THE SECOND FORM's CARD OF 'larderlaw03.CalInstants'. -/
def calInstantsUptoCard : Claim7 := { stood := { row := calInstantsUptoRow, standIns := [], harness := (true, "b93e7ccfd7e58faf6fba56e7bbb1e0fa13d6ac0b7b4d99cbdca4df91f704a827"), looks := true }, kinds := [], alts := [], laidByText := true, laidKinds := [.data, .data, .data, .data, .sentinel, .sentinel, .data, .pinned], laidTests := true, laidLooks := .later }
def CalInstantsUptoCardSaid : Prop := Claim7.holds Tryz.pinned (.plain (OpenSpec.upto calInstantsSpec)) calInstantsUptoCard

/-- THE SECOND FORM's CARD OF 'larderlaw03.CalClock'. -/
def calClockUptoCard : Claim7 := { stood := { row := calClockUptoRow, standIns := [], harness := (true, "b93e7ccfd7e58faf6fba56e7bbb1e0fa13d6ac0b7b4d99cbdca4df91f704a827"), looks := true }, kinds := [], alts := [], laidByText := true, laidKinds := [.data, .data, .data, .data, .sentinel, .sentinel, .data, .pinned], laidTests := true, laidLooks := .later }
def CalClockUptoCardSaid : Prop := Claim7.holds Tryz.pinned (.plain (OpenSpec.upto calClockSpec)) calClockUptoCard

/-- THE SECOND FORM's CARD OF 'larderlaw03.CalMidnight'. -/
def calMidnightUptoCard : Claim7 := { stood := { row := calMidnightUptoRow, standIns := [], harness := (true, "b93e7ccfd7e58faf6fba56e7bbb1e0fa13d6ac0b7b4d99cbdca4df91f704a827"), looks := true }, kinds := [], alts := [], laidByText := true, laidKinds := [.data, .data, .data, .data, .sentinel, .sentinel, .data, .pinned], laidTests := true, laidLooks := .later }
def CalMidnightUptoCardSaid : Prop := Claim7.holds Tryz.pinned (.plain (OpenSpec.upto calMidnightSpec)) calMidnightUptoCard

/-- THE SECOND FORM's CARD OF 'larderlaw03.CalCut'. -/
def calCutUptoCard : Claim7 := { stood := { row := calCutUptoRow, standIns := [], harness := (true, "b93e7ccfd7e58faf6fba56e7bbb1e0fa13d6ac0b7b4d99cbdca4df91f704a827"), looks := true }, kinds := [], alts := [], laidByText := true, laidKinds := [.data, .data, .data, .data, .sentinel, .sentinel, .data, .pinned], laidTests := true, laidLooks := .later }
def CalCutUptoCardSaid : Prop := Claim7.holds Tryz.pinned (.plain (OpenSpec.upto calCutSpec)) calCutUptoCard
end Rows
end Go.Proofs.YtcmllfipaiacfaaGreatDoor
