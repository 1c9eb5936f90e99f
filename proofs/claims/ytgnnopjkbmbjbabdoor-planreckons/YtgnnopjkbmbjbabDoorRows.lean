/-
  NARROWER THAN 'FOR EVERY INPUT', by the rows' own cells (each row's printed sentence says how): PlanReckons: laid · PlanShips: laid.
  DERIVED. THE GIVEN ROWS OF THIS SEAT. 2 by the template 'for every input the law returns true; each argument reads behind the call as it read before'; 0 by the template 'total and deterministic' (their statements: YtgnnopjkbmbjbabDoorTotals.lean).
  GIVEN WITH THE SEED: the statements are not yours to turn. If you find one false, say at which input.
  Laid BY PROGRAM, IN A SANDBOX (cutbox-rows.mjs): the forced cells as the released guide's own fill.sh prints them over the translation fee567566d87bf54… (all of the seat's roots in one cut). By AI agents, Wed Nov 11 2026. No macro, syntax, notation, axiom, sorry.
-/
import Derived.Test.YtgnnopjkbmbjbabDoorChecked
import GoSem.Claim
import GoSem.ClaimJoined
import GoSem.ClaimMapViews
import Derived.JoinedTies
import Derived.KernelRfl
namespace Go.Proofs.YtgnnopjkbmbjbabDoor
/- THE CELL 'sum', in the pinned program and in every row, IS THE sha256 OF THE DUMP (.gsa) THAT YtgnnopjkbmbjbabDoorProg.lean LOADS. Nothing in Lean hashes anything: it is a label: what it is worth is what the hold of that sum in a sandbox is worth. -/
noncomputable def Tryd.pinned : Pinned := { name := "ytgnnopjkbmbjbabdoor", sum := "fee567566d87bf54ec91e80a7375bb1dcc3456e063e631b6aed096ec5e76feaf", checked := Tryd.checked }
namespace Rows
def none {H : Type} : Left H := { results := [], args := [] }

/- WHAT THE LISTED PACKAGE-LEVEL VARIABLES READ AS WHEN THE CALL BEGINS. Each datum BY PROGRAM (the guide's laid-datum.mjs) off the statement by which the dump's own 'gosem.cut.vars' lays the variable. In a bare row this is a premise. The card (YtgnnopjkbmbjbabDoorCards.lean) ties it to the program's text. -/
def laid_larder_plan_turns {H : Type} : DataW H := .agg [.agg [.lit (.int .i64 1), .lit (.int .i64 0)], .agg [.lit (.int .i64 0), .lit (.int .i64 (-1))], .agg [.lit (.int .i64 (-1)), .lit (.int .i64 0)], .agg [.lit (.int .i64 0), .lit (.int .i64 1)]]
def laid_larder_larderlaw17_behind {H : Type} : DataW H := .agg [.lit (.string [98, 101, 104, 105, 110, 100]), .lit (.int .i64 77)]

/-- 'larderlaw17.PlanReckons': WHATEVER THE INPUT: true; the input reads as it did. -/
def planReckonsSpec : ChangeSpec := { name := "planReckons", fn := fun _ => fun
  | [d1, d2] => { results := [.lit (.bool true)], args := [d1, d2] }
  | _ => none }
def planReckonsRow : OpenClaim := { program := "ytgnnopjkbmbjbabdoor", sum := "fee567566d87bf54ec91e80a7375bb1dcc3456e063e631b6aed096ec5e76feaf", func := "larder/larderlaw17.PlanReckons", spec := "planReckons", inPlace := ["math.sqrt"], named := ["larder/plan.turns"], apart := false, laid := [("larder/plan.turns", laid_larder_plan_turns)] }
def PlanReckonsSaid : Prop := planReckonsRow.holds Tryd.pinned (OpenSpec.ofChange planReckonsSpec)

/-- ITS FALSE NEIGHBOUR: 'it returns false'. Refute it at one input. -/
def planReckonsWrong : ChangeSpec := { name := "planReckons", fn := fun _ => fun
  | [d1, d2] => { results := [.lit (.bool false)], args := [d1, d2] }
  | _ => none }
def PlanReckonsWrongFalsely : Prop := planReckonsRow.holds Tryd.pinned (OpenSpec.ofChange planReckonsWrong)

/-- 'larderlaw17.PlanShips': WHATEVER THE INPUT: true; the input reads as it did. -/
def planShipsSpec : ChangeSpec := { name := "planShips", fn := fun _ => fun
  | [d1, d2] => { results := [.lit (.bool true)], args := [d1, d2] }
  | _ => none }
def planShipsRow : OpenClaim := { program := "ytgnnopjkbmbjbabdoor", sum := "fee567566d87bf54ec91e80a7375bb1dcc3456e063e631b6aed096ec5e76feaf", func := "larder/larderlaw17.PlanShips", spec := "planShips", unfollowed := true, recurses := true, named := ["larder/larderlaw17.behind"], apart := false, laid := [("larder/larderlaw17.behind", laid_larder_larderlaw17_behind)] }
def PlanShipsSaid : Prop := planShipsRow.holds Tryd.pinned (OpenSpec.ofChange planShipsSpec)

/-- ITS FALSE NEIGHBOUR: 'it returns false'. Refute it at one input. -/
def planShipsWrong : ChangeSpec := { name := "planShips", fn := fun _ => fun
  | [d1, d2] => { results := [.lit (.bool false)], args := [d1, d2] }
  | _ => none }
def PlanShipsWrongFalsely : Prop := planShipsRow.holds Tryd.pinned (OpenSpec.ofChange planShipsWrong)

/- THE SECOND FORM. 'bulk': how many values and letters a reading holds, each counted each time it is reached (what is shared counts as often as it is met; a slice's spare places count too). A statement '..UptoSaid' is the law's where the arguments, and the package variables that the reading takes, are together of bulk at most 1048576: NARROWER than '..Said'. Prove '..Said' where nothing that the law and all that it calls make is longer than what came in: it says more and counts as full. Else prove '..UptoSaid'. A law counts once. -/
mutual
def uptoBulk {H : Type} : DataW H → Nat
  | .lit (.string bytes) => bytes.length + 1
  | .lit _ => 1
  | .nil => 1
  | .ptr d => uptoBulk d + 1
  | .slice elems spare => uptoBulkAll elems + uptoBulkAll spare + 1
  | .agg parts => uptoBulkAll parts + 1
  | .iface _ d => uptoBulk d + 1
  | .map entries => uptoBulkEntries entries + 1
  | .held _ => 1
def uptoBulkAll {H : Type} : List (DataW H) → Nat
  | [] => 0
  | d :: r => uptoBulk d + uptoBulkAll r
def uptoBulkEntries {H : Type} : List (Lit × DataW H) → Nat
  | [] => 0
  | x :: r => uptoBulkEntry x + uptoBulkEntries r
def uptoBulkEntry {H : Type} : Lit × DataW H → Nat
  | (.string bytes, d) => bytes.length + uptoBulk d + 1
  | (_, d) => uptoBulk d + 1
 end
def uptoSmall : (H : Type) → List (DataW H) → Bool := fun _ ds => decide (uptoBulkAll ds ≤ 1048576)
def OpenSpec.upto (s : _root_.Go.ChangeSpec) : _root_.Go.OpenSpec := { _root_.Go.OpenSpec.ofChange s with cond := some uptoSmall }

/-- 'larderlaw17.PlanReckons', WHERE WHAT IT READS IS OF BULK AT MOST 1048576: true; the input reads as it did. -/
def planReckonsUptoRow : OpenClaim := { program := "ytgnnopjkbmbjbabdoor", sum := "fee567566d87bf54ec91e80a7375bb1dcc3456e063e631b6aed096ec5e76feaf", func := "larder/larderlaw17.PlanReckons", spec := "planReckons", inPlace := ["math.sqrt"], named := ["larder/plan.turns"], apart := false, laid := [("larder/plan.turns", laid_larder_plan_turns)], narrowed := true }
def PlanReckonsUptoSaid : Prop := planReckonsUptoRow.holds Tryd.pinned (OpenSpec.upto planReckonsSpec)

/-- 'larderlaw17.PlanShips', WHERE WHAT IT READS IS OF BULK AT MOST 1048576: true; the input reads as it did. -/
def planShipsUptoRow : OpenClaim := { program := "ytgnnopjkbmbjbabdoor", sum := "fee567566d87bf54ec91e80a7375bb1dcc3456e063e631b6aed096ec5e76feaf", func := "larder/larderlaw17.PlanShips", spec := "planShips", unfollowed := true, recurses := true, named := ["larder/larderlaw17.behind"], apart := false, laid := [("larder/larderlaw17.behind", laid_larder_larderlaw17_behind)], narrowed := true }
def PlanShipsUptoSaid : Prop := planShipsUptoRow.holds Tryd.pinned (OpenSpec.upto planShipsSpec)

end Rows
end Go.Proofs.YtgnnopjkbmbjbabDoor
