/-
  DERIVED. GIVEN WITH THE SEED: THE CARDS: each row of YtcenlpfanikdnaaDoorRows.lean that lists a variable, with what it lists TIED to the program's text (the seventh form; the later family's looks); each row that meets fmt, with fmt's text TOLD by the authors' own Lean function (tested against real Go, not proved from fmt's source: count such statements apart). THE CARD IS WHAT COUNTS. Prove the row's statement (the work); the ties are given (YtcenlpfanikdnaaDoorTie.lean); close each card by the builder's one call (the guide's Derived/Test/ToyasCard.lean, 'card_holds'). Laid BY PROGRAM, IN A SANDBOX (cutbox-door.mjs). By AI agents, Wed Nov 11 2026. No macro, syntax, notation, axiom, sorry.
-/
import Derived.Test.YtcenlpfanikdnaaDoorRows
import GoSem.ClaimSeven
namespace Go.Proofs.YtcenlpfanikdnaaDoor
namespace Rows

/-- THE TIED CARD OF 'larderlaw02.GtinLevels'. -/
def gtinLevelsCard : Claim7 := { stood := { row := gtinLevelsRow, standIns := [], harness := (true, "0808010fcfd4301d805200c9eba5097e1728230401068c9394b2c256ade3b35f"), looks := false }, kinds := [], alts := [], laidByText := true, laidKinds := [.data, .pinned], laidTests := true, laidLooks := .later }
def GtinLevelsCardSaid : Prop := Claim7.holds Tryd.pinned (.plain (OpenSpec.ofChange gtinLevelsSpec)) gtinLevelsCard

/-- THE TIED CARD OF 'larderlaw02.GtinDays'. -/
def gtinDaysCard : Claim7 := { stood := { row := gtinDaysRow, standIns := [], harness := (true, "0808010fcfd4301d805200c9eba5097e1728230401068c9394b2c256ade3b35f"), looks := false }, kinds := [], alts := [], laidByText := true, laidKinds := [.data], laidTests := true, laidLooks := .later }
def GtinDaysCardSaid : Prop := Claim7.holds Tryd.pinned (.plain (OpenSpec.ofChange gtinDaysSpec)) gtinDaysCard

/-- THE TIED CARD OF 'larderlaw02.GtinSpan'. -/
def gtinSpanCard : Claim7 := { stood := { row := gtinSpanRow, standIns := [], harness := (true, "0808010fcfd4301d805200c9eba5097e1728230401068c9394b2c256ade3b35f"), looks := false }, kinds := [], alts := [], laidByText := true, laidKinds := [.data], laidTests := true, laidLooks := .later }
def GtinSpanCardSaid : Prop := Claim7.holds Tryd.pinned (.plain (OpenSpec.ofChange gtinSpanSpec)) gtinSpanCard

/-- THE SECOND FORM's CARD OF 'larderlaw02.GtinLevels'. -/
def gtinLevelsUptoCard : Claim7 := { stood := { row := gtinLevelsUptoRow, standIns := [], harness := (true, "0808010fcfd4301d805200c9eba5097e1728230401068c9394b2c256ade3b35f"), looks := false }, kinds := [], alts := [], laidByText := true, laidKinds := [.data, .pinned], laidTests := true, laidLooks := .later }
def GtinLevelsUptoCardSaid : Prop := Claim7.holds Tryd.pinned (.plain (OpenSpec.upto gtinLevelsSpec)) gtinLevelsUptoCard

/-- THE SECOND FORM's CARD OF 'larderlaw02.GtinDays'. -/
def gtinDaysUptoCard : Claim7 := { stood := { row := gtinDaysUptoRow, standIns := [], harness := (true, "0808010fcfd4301d805200c9eba5097e1728230401068c9394b2c256ade3b35f"), looks := false }, kinds := [], alts := [], laidByText := true, laidKinds := [.data], laidTests := true, laidLooks := .later }
def GtinDaysUptoCardSaid : Prop := Claim7.holds Tryd.pinned (.plain (OpenSpec.upto gtinDaysSpec)) gtinDaysUptoCard

/-- THE SECOND FORM's CARD OF 'larderlaw02.GtinSpan'. -/
def gtinSpanUptoCard : Claim7 := { stood := { row := gtinSpanUptoRow, standIns := [], harness := (true, "0808010fcfd4301d805200c9eba5097e1728230401068c9394b2c256ade3b35f"), looks := false }, kinds := [], alts := [], laidByText := true, laidKinds := [.data], laidTests := true, laidLooks := .later }
def GtinSpanUptoCardSaid : Prop := Claim7.holds Tryd.pinned (.plain (OpenSpec.upto gtinSpanSpec)) gtinSpanUptoCard
end Rows
end Go.Proofs.YtcenlpfanikdnaaDoor
