/-
  DERIVED. GIVEN WITH THE SEED: THE CARDS: each row of YtjmainmidacmfaaDoorRows.lean that lists a variable, with what it lists TIED to the program's text (the seventh form; the later family's looks); each row that meets fmt, with fmt's text TOLD by the authors' own Lean function (tested against real Go, not proved from fmt's source: count such statements apart). THE CARD IS WHAT COUNTS. Prove the row's statement (the work); the ties are given (YtjmainmidacmfaaDoorTie.lean); close each card by the builder's one call (the guide's Derived/Test/ToyasCard.lean, 'card_holds'). Laid BY PROGRAM, IN A SANDBOX (cutbox-door.mjs). By AI agents, Wed Nov 11 2026. No macro, syntax, notation, axiom, sorry.
-/
import Derived.Test.YtjmainmidacmfaaDoorRows
import GoSem.ClaimSeven
namespace Go.Proofs.YtjmainmidacmfaaDoor
namespace Rows

/-- THE TIED CARD OF 'larderlaw03.CalSpoken'. -/
def calSpokenCard : Claim7 := { stood := { row := calSpokenRow, standIns := [], harness := (true, "a94a6f5849167b5af7f528364c8ba9ff2226d0e0dcc942289d13db87122673b1"), looks := true }, kinds := [], alts := [], laidByText := true, laidKinds := [.data, .data, .data, .sentinel, .sentinel], laidTests := true, laidLooks := .later }
def CalSpokenCardSaid : Prop := Claim7.holds Tryd.pinned (.plain (OpenSpec.ofChange calSpokenSpec)) calSpokenCard

/-- THE TIED CARD OF 'larderlaw03.CalTells'. -/
def calTellsCard : Claim7 := { stood := { row := calTellsRow, standIns := [], harness := (true, "a94a6f5849167b5af7f528364c8ba9ff2226d0e0dcc942289d13db87122673b1"), looks := true }, kinds := [], alts := [], laidByText := true, laidKinds := [.data, .data, .data], laidTests := true, laidLooks := .later }
def CalTellsCardSaid : Prop := Claim7.holds Tryd.pinned (.plain (OpenSpec.ofChange calTellsSpec)) calTellsCard

/-- THE TIED CARD OF 'larderlaw03.CalForth'. -/
def calForthCard : Claim7 := { stood := { row := calForthRow, standIns := [], harness := (true, "a94a6f5849167b5af7f528364c8ba9ff2226d0e0dcc942289d13db87122673b1"), looks := true }, kinds := [], alts := [], laidByText := true, laidKinds := [.data], laidTests := true, laidLooks := .later }
def CalForthCardSaid : Prop := Claim7.holds Tryd.pinned (.plain (OpenSpec.ofChange calForthSpec)) calForthCard

/-- THE TIED CARD OF 'larderlaw03.CalMonths'. -/
def calMonthsCard : Claim7 := { stood := { row := calMonthsRow, standIns := [], harness := (true, "a94a6f5849167b5af7f528364c8ba9ff2226d0e0dcc942289d13db87122673b1"), looks := true }, kinds := [], alts := [], laidByText := true, laidKinds := [.data], laidTests := true, laidLooks := .later }
def CalMonthsCardSaid : Prop := Claim7.holds Tryd.pinned (.plain (OpenSpec.ofChange calMonthsSpec)) calMonthsCard

/-- THE TIED CARD OF 'larderlaw03.CalAdds'. -/
def calAddsCard : Claim7 := { stood := { row := calAddsRow, standIns := [], harness := (true, "a94a6f5849167b5af7f528364c8ba9ff2226d0e0dcc942289d13db87122673b1"), looks := true }, kinds := [], alts := [], laidByText := true, laidKinds := [.data], laidTests := true, laidLooks := .later }
def CalAddsCardSaid : Prop := Claim7.holds Tryd.pinned (.plain (OpenSpec.ofChange calAddsSpec)) calAddsCard

/-- THE TIED CARD OF 'larderlaw03.CalEach'. -/
def calEachCard : Claim7 := { stood := { row := calEachRow, standIns := [], harness := (true, "a94a6f5849167b5af7f528364c8ba9ff2226d0e0dcc942289d13db87122673b1"), looks := true }, kinds := [], alts := [], laidByText := true, laidKinds := [.data], laidTests := true, laidLooks := .later }
def CalEachCardSaid : Prop := Claim7.holds Tryd.pinned (.plain (OpenSpec.ofChange calEachSpec)) calEachCard

/-- THE SECOND FORM's CARD OF 'larderlaw03.CalSpoken'. -/
def calSpokenUptoCard : Claim7 := { stood := { row := calSpokenUptoRow, standIns := [], harness := (true, "a94a6f5849167b5af7f528364c8ba9ff2226d0e0dcc942289d13db87122673b1"), looks := true }, kinds := [], alts := [], laidByText := true, laidKinds := [.data, .data, .data, .sentinel, .sentinel], laidTests := true, laidLooks := .later }
def CalSpokenUptoCardSaid : Prop := Claim7.holds Tryd.pinned (.plain (OpenSpec.upto calSpokenSpec)) calSpokenUptoCard

/-- THE SECOND FORM's CARD OF 'larderlaw03.CalTells'. -/
def calTellsUptoCard : Claim7 := { stood := { row := calTellsUptoRow, standIns := [], harness := (true, "a94a6f5849167b5af7f528364c8ba9ff2226d0e0dcc942289d13db87122673b1"), looks := true }, kinds := [], alts := [], laidByText := true, laidKinds := [.data, .data, .data], laidTests := true, laidLooks := .later }
def CalTellsUptoCardSaid : Prop := Claim7.holds Tryd.pinned (.plain (OpenSpec.upto calTellsSpec)) calTellsUptoCard

/-- THE SECOND FORM's CARD OF 'larderlaw03.CalForth'. -/
def calForthUptoCard : Claim7 := { stood := { row := calForthUptoRow, standIns := [], harness := (true, "a94a6f5849167b5af7f528364c8ba9ff2226d0e0dcc942289d13db87122673b1"), looks := true }, kinds := [], alts := [], laidByText := true, laidKinds := [.data], laidTests := true, laidLooks := .later }
def CalForthUptoCardSaid : Prop := Claim7.holds Tryd.pinned (.plain (OpenSpec.upto calForthSpec)) calForthUptoCard

/-- THE SECOND FORM's CARD OF 'larderlaw03.CalMonths'. -/
def calMonthsUptoCard : Claim7 := { stood := { row := calMonthsUptoRow, standIns := [], harness := (true, "a94a6f5849167b5af7f528364c8ba9ff2226d0e0dcc942289d13db87122673b1"), looks := true }, kinds := [], alts := [], laidByText := true, laidKinds := [.data], laidTests := true, laidLooks := .later }
def CalMonthsUptoCardSaid : Prop := Claim7.holds Tryd.pinned (.plain (OpenSpec.upto calMonthsSpec)) calMonthsUptoCard

/-- THE SECOND FORM's CARD OF 'larderlaw03.CalAdds'. -/
def calAddsUptoCard : Claim7 := { stood := { row := calAddsUptoRow, standIns := [], harness := (true, "a94a6f5849167b5af7f528364c8ba9ff2226d0e0dcc942289d13db87122673b1"), looks := true }, kinds := [], alts := [], laidByText := true, laidKinds := [.data], laidTests := true, laidLooks := .later }
def CalAddsUptoCardSaid : Prop := Claim7.holds Tryd.pinned (.plain (OpenSpec.upto calAddsSpec)) calAddsUptoCard

/-- THE SECOND FORM's CARD OF 'larderlaw03.CalEach'. -/
def calEachUptoCard : Claim7 := { stood := { row := calEachUptoRow, standIns := [], harness := (true, "a94a6f5849167b5af7f528364c8ba9ff2226d0e0dcc942289d13db87122673b1"), looks := true }, kinds := [], alts := [], laidByText := true, laidKinds := [.data], laidTests := true, laidLooks := .later }
def CalEachUptoCardSaid : Prop := Claim7.holds Tryd.pinned (.plain (OpenSpec.upto calEachSpec)) calEachUptoCard
end Rows
end Go.Proofs.YtjmainmidacmfaaDoor
