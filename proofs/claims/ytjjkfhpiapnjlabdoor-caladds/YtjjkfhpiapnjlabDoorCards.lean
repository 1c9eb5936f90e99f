/-
  DERIVED. GIVEN WITH THE SEED: THE CARDS: each row of YtjjkfhpiapnjlabDoorRows.lean that lists a variable, with what it lists TIED to the program's text (the seventh form; the later family's looks); each row that meets fmt, with fmt's text TOLD by the authors' own Lean function (tested against real Go, not proved from fmt's source: count such statements apart). THE CARD IS WHAT COUNTS. Prove the row's statement (the work); the ties are given (YtjjkfhpiapnjlabDoorTie.lean); close each card by the builder's one call (the guide's Derived/Test/ToyasCard.lean, 'card_holds'). Laid BY PROGRAM, IN A SANDBOX (cutbox-door.mjs). By AI agents, Wed Nov 11 2026. No macro, syntax, notation, axiom, sorry.
-/
import Derived.Test.YtjjkfhpiapnjlabDoorRows
import GoSem.ClaimSeven
namespace Go.Proofs.YtjjkfhpiapnjlabDoor
namespace Rows

/-- THE TIED CARD OF 'larderlaw03.CalCycle'. -/
def calCycleCard : Claim7 := { stood := { row := calCycleRow, standIns := [], harness := (true, "e141faa740374eeb60e6601206cdf3e038dc1926c71e7ecda070bad19c9d91b3"), looks := false }, kinds := [], alts := [], laidByText := true, laidKinds := [.data], laidTests := true, laidLooks := .later }
def CalCycleCardSaid : Prop := Claim7.holds Tryd.pinned (.plain (OpenSpec.ofChange calCycleSpec)) calCycleCard

/-- THE TIED CARD OF 'larderlaw03.CalWeekly'. -/
def calWeeklyCard : Claim7 := { stood := { row := calWeeklyRow, standIns := [], harness := (true, "e141faa740374eeb60e6601206cdf3e038dc1926c71e7ecda070bad19c9d91b3"), looks := false }, kinds := [], alts := [], laidByText := true, laidKinds := [.data], laidTests := true, laidLooks := .later }
def CalWeeklyCardSaid : Prop := Claim7.holds Tryd.pinned (.plain (OpenSpec.ofChange calWeeklySpec)) calWeeklyCard

/-- THE TIED CARD OF 'larderlaw03.CalMonths'. -/
def calMonthsCard : Claim7 := { stood := { row := calMonthsRow, standIns := [], harness := (true, "e141faa740374eeb60e6601206cdf3e038dc1926c71e7ecda070bad19c9d91b3"), looks := false }, kinds := [], alts := [], laidByText := true, laidKinds := [.data], laidTests := true, laidLooks := .later }
def CalMonthsCardSaid : Prop := Claim7.holds Tryd.pinned (.plain (OpenSpec.ofChange calMonthsSpec)) calMonthsCard

/-- THE TIED CARD OF 'larderlaw03.CalAdds'. -/
def calAddsCard : Claim7 := { stood := { row := calAddsRow, standIns := [], harness := (true, "e141faa740374eeb60e6601206cdf3e038dc1926c71e7ecda070bad19c9d91b3"), looks := false }, kinds := [], alts := [], laidByText := true, laidKinds := [.data], laidTests := true, laidLooks := .later }
def CalAddsCardSaid : Prop := Claim7.holds Tryd.pinned (.plain (OpenSpec.ofChange calAddsSpec)) calAddsCard

/-- THE TIED CARD OF 'larderlaw03.CalDays'. -/
def calDaysCard : Claim7 := { stood := { row := calDaysRow, standIns := [], harness := (true, "e141faa740374eeb60e6601206cdf3e038dc1926c71e7ecda070bad19c9d91b3"), looks := false }, kinds := [], alts := [], laidByText := true, laidKinds := [.data], laidTests := true, laidLooks := .later }
def CalDaysCardSaid : Prop := Claim7.holds Tryd.pinned (.plain (OpenSpec.ofChange calDaysSpec)) calDaysCard

/-- THE TIED CARD OF 'larderlaw03.CalEach'. -/
def calEachCard : Claim7 := { stood := { row := calEachRow, standIns := [], harness := (true, "e141faa740374eeb60e6601206cdf3e038dc1926c71e7ecda070bad19c9d91b3"), looks := false }, kinds := [], alts := [], laidByText := true, laidKinds := [.data], laidTests := true, laidLooks := .later }
def CalEachCardSaid : Prop := Claim7.holds Tryd.pinned (.plain (OpenSpec.ofChange calEachSpec)) calEachCard

/-- THE SECOND FORM's CARD OF 'larderlaw03.CalCycle'. -/
def calCycleUptoCard : Claim7 := { stood := { row := calCycleUptoRow, standIns := [], harness := (true, "e141faa740374eeb60e6601206cdf3e038dc1926c71e7ecda070bad19c9d91b3"), looks := false }, kinds := [], alts := [], laidByText := true, laidKinds := [.data], laidTests := true, laidLooks := .later }
def CalCycleUptoCardSaid : Prop := Claim7.holds Tryd.pinned (.plain (OpenSpec.upto calCycleSpec)) calCycleUptoCard

/-- THE SECOND FORM's CARD OF 'larderlaw03.CalWeekly'. -/
def calWeeklyUptoCard : Claim7 := { stood := { row := calWeeklyUptoRow, standIns := [], harness := (true, "e141faa740374eeb60e6601206cdf3e038dc1926c71e7ecda070bad19c9d91b3"), looks := false }, kinds := [], alts := [], laidByText := true, laidKinds := [.data], laidTests := true, laidLooks := .later }
def CalWeeklyUptoCardSaid : Prop := Claim7.holds Tryd.pinned (.plain (OpenSpec.upto calWeeklySpec)) calWeeklyUptoCard

/-- THE SECOND FORM's CARD OF 'larderlaw03.CalMonths'. -/
def calMonthsUptoCard : Claim7 := { stood := { row := calMonthsUptoRow, standIns := [], harness := (true, "e141faa740374eeb60e6601206cdf3e038dc1926c71e7ecda070bad19c9d91b3"), looks := false }, kinds := [], alts := [], laidByText := true, laidKinds := [.data], laidTests := true, laidLooks := .later }
def CalMonthsUptoCardSaid : Prop := Claim7.holds Tryd.pinned (.plain (OpenSpec.upto calMonthsSpec)) calMonthsUptoCard

/-- THE SECOND FORM's CARD OF 'larderlaw03.CalAdds'. -/
def calAddsUptoCard : Claim7 := { stood := { row := calAddsUptoRow, standIns := [], harness := (true, "e141faa740374eeb60e6601206cdf3e038dc1926c71e7ecda070bad19c9d91b3"), looks := false }, kinds := [], alts := [], laidByText := true, laidKinds := [.data], laidTests := true, laidLooks := .later }
def CalAddsUptoCardSaid : Prop := Claim7.holds Tryd.pinned (.plain (OpenSpec.upto calAddsSpec)) calAddsUptoCard

/-- THE SECOND FORM's CARD OF 'larderlaw03.CalDays'. -/
def calDaysUptoCard : Claim7 := { stood := { row := calDaysUptoRow, standIns := [], harness := (true, "e141faa740374eeb60e6601206cdf3e038dc1926c71e7ecda070bad19c9d91b3"), looks := false }, kinds := [], alts := [], laidByText := true, laidKinds := [.data], laidTests := true, laidLooks := .later }
def CalDaysUptoCardSaid : Prop := Claim7.holds Tryd.pinned (.plain (OpenSpec.upto calDaysSpec)) calDaysUptoCard

/-- THE SECOND FORM's CARD OF 'larderlaw03.CalEach'. -/
def calEachUptoCard : Claim7 := { stood := { row := calEachUptoRow, standIns := [], harness := (true, "e141faa740374eeb60e6601206cdf3e038dc1926c71e7ecda070bad19c9d91b3"), looks := false }, kinds := [], alts := [], laidByText := true, laidKinds := [.data], laidTests := true, laidLooks := .later }
def CalEachUptoCardSaid : Prop := Claim7.holds Tryd.pinned (.plain (OpenSpec.upto calEachSpec)) calEachUptoCard
end Rows
end Go.Proofs.YtjjkfhpiapnjlabDoor
