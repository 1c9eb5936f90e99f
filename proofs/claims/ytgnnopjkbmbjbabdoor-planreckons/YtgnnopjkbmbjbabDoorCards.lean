/-
  DERIVED. GIVEN WITH THE SEED: THE CARDS: each row of YtgnnopjkbmbjbabDoorRows.lean that lists a variable, with what it lists TIED to the program's text (the seventh form; the later family's looks); each row that meets fmt, with fmt's text TOLD by the authors' own Lean function (tested against real Go, not proved from fmt's source: count such statements apart). THE CARD IS WHAT COUNTS. Prove the row's statement (the work); the ties are given (YtgnnopjkbmbjbabDoorTie.lean); close each card by the builder's one call (the guide's Derived/Test/ToyasCard.lean, 'card_holds'). Laid BY PROGRAM, IN A SANDBOX (cutbox-door.mjs). By AI agents, Wed Nov 11 2026. No macro, syntax, notation, axiom, sorry.
-/
import Derived.Test.YtgnnopjkbmbjbabDoorRows
import GoSem.ClaimSeven
namespace Go.Proofs.YtgnnopjkbmbjbabDoor
namespace Rows

/-- THE TIED CARD OF 'larderlaw17.PlanReckons'. -/
def planReckonsCard : Claim7 := { stood := { row := planReckonsRow, standIns := [], harness := (true, "1950df156d3a1a9ae74af7ce00ca646972f7d9586f3f23f19588bbf58eff9430"), looks := false }, kinds := [], alts := [], laidByText := true, laidKinds := [.data], laidTests := true, laidLooks := .later }
def PlanReckonsCardSaid : Prop := Claim7.holds Tryd.pinned (.plain (OpenSpec.ofChange planReckonsSpec)) planReckonsCard

/-- THE TIED CARD OF 'larderlaw17.PlanShips'. -/
def planShipsCard : Claim7 := { stood := { row := planShipsRow, standIns := [], harness := (true, "1950df156d3a1a9ae74af7ce00ca646972f7d9586f3f23f19588bbf58eff9430"), looks := false }, kinds := [], alts := [], laidByText := true, laidKinds := [.data], laidTests := true, laidLooks := .later }
def PlanShipsCardSaid : Prop := Claim7.holds Tryd.pinned (.plain (OpenSpec.ofChange planShipsSpec)) planShipsCard

/-- THE SECOND FORM's CARD OF 'larderlaw17.PlanReckons'. -/
def planReckonsUptoCard : Claim7 := { stood := { row := planReckonsUptoRow, standIns := [], harness := (true, "1950df156d3a1a9ae74af7ce00ca646972f7d9586f3f23f19588bbf58eff9430"), looks := false }, kinds := [], alts := [], laidByText := true, laidKinds := [.data], laidTests := true, laidLooks := .later }
def PlanReckonsUptoCardSaid : Prop := Claim7.holds Tryd.pinned (.plain (OpenSpec.upto planReckonsSpec)) planReckonsUptoCard

/-- THE SECOND FORM's CARD OF 'larderlaw17.PlanShips'. -/
def planShipsUptoCard : Claim7 := { stood := { row := planShipsUptoRow, standIns := [], harness := (true, "1950df156d3a1a9ae74af7ce00ca646972f7d9586f3f23f19588bbf58eff9430"), looks := false }, kinds := [], alts := [], laidByText := true, laidKinds := [.data], laidTests := true, laidLooks := .later }
def PlanShipsUptoCardSaid : Prop := Claim7.holds Tryd.pinned (.plain (OpenSpec.upto planShipsSpec)) planShipsUptoCard
end Rows
end Go.Proofs.YtgnnopjkbmbjbabDoor
