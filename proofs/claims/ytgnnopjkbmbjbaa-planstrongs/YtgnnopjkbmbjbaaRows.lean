/-
  No cell of these rows narrows 'for every input' (looked for: loops, veiled, ifaces, maps, wideKeys, modest, calm, conditions, laid).
  DERIVED. THE GIVEN ROWS OF THIS SEAT. 5 by the template 'for every input the law returns true; each argument reads behind the call as it read before'; 0 by the template 'total and deterministic' (their statements: YtgnnopjkbmbjbaaTotals.lean).
  GIVEN WITH THE SEED: the statements are not yours to turn. If you find one false, say at which input.
  Laid BY PROGRAM, IN A SANDBOX (cutbox-rows.mjs): the forced cells as the released guide's own fill.sh prints them over the translation 1ff90fb98e97a3e6… (all of the seat's roots in one cut). By AI agents, Wed Nov 11 2026. No macro, syntax, notation, axiom, sorry.
-/
import Derived.Test.YtgnnopjkbmbjbaaChecked
import GoSem.Claim
import GoSem.ClaimJoined
import GoSem.ClaimMapViews
import Derived.JoinedTies
import Derived.KernelRfl
namespace Go.Proofs.Ytgnnopjkbmbjbaa
/- THE CELL 'sum', in the pinned program and in every row, IS THE sha256 OF THE DUMP (.gsa) THAT YtgnnopjkbmbjbaaProg.lean LOADS. Nothing in Lean hashes anything: it is a label: what it is worth is what the hold of that sum in a sandbox is worth. -/
noncomputable def Try.pinned : Pinned := { name := "ytgnnopjkbmbjbaa", sum := "1ff90fb98e97a3e6a407219dfa4529c655e471e748148f402b915e8c6331c52e", checked := Try.checked }
namespace Rows
def none {H : Type} : Left H := { results := [], args := [] }

/-- 'larderlaw17.PlanOrders': WHATEVER THE INPUT: true; the input reads as it did. -/
def planOrdersSpec : ChangeSpec := { name := "planOrders", fn := fun _ => fun
  | [d1, d2, d3, d4, d5] => { results := [.lit (.bool true)], args := [d1, d2, d3, d4, d5] }
  | _ => none }
def planOrdersRow : OpenClaim := { program := "ytgnnopjkbmbjbaa", sum := "1ff90fb98e97a3e6a407219dfa4529c655e471e748148f402b915e8c6331c52e", func := "larder/larderlaw17.PlanOrders", spec := "planOrders", apart := false }
def PlanOrdersSaid : Prop := planOrdersRow.holds Try.pinned (OpenSpec.ofChange planOrdersSpec)

/-- ITS FALSE NEIGHBOUR: 'it returns false'. Refute it at one input. -/
def planOrdersWrong : ChangeSpec := { name := "planOrders", fn := fun _ => fun
  | [d1, d2, d3, d4, d5] => { results := [.lit (.bool false)], args := [d1, d2, d3, d4, d5] }
  | _ => none }
def PlanOrdersWrongFalsely : Prop := planOrdersRow.holds Try.pinned (OpenSpec.ofChange planOrdersWrong)

/-- 'larderlaw17.PlanRestocks': WHATEVER THE INPUT: true; the input reads as it did. -/
def planRestocksSpec : ChangeSpec := { name := "planRestocks", fn := fun _ => fun
  | [d] => { results := [.lit (.bool true)], args := [d] }
  | _ => none }
def planRestocksRow : OpenClaim := { program := "ytgnnopjkbmbjbaa", sum := "1ff90fb98e97a3e6a407219dfa4529c655e471e748148f402b915e8c6331c52e", func := "larder/larderlaw17.PlanRestocks", spec := "planRestocks", apart := false }
def PlanRestocksSaid : Prop := planRestocksRow.holds Try.pinned (OpenSpec.ofChange planRestocksSpec)

/-- ITS FALSE NEIGHBOUR: 'it returns false'. Refute it at one input. -/
def planRestocksWrong : ChangeSpec := { name := "planRestocks", fn := fun _ => fun
  | [d] => { results := [.lit (.bool false)], args := [d] }
  | _ => none }
def PlanRestocksWrongFalsely : Prop := planRestocksRow.holds Try.pinned (OpenSpec.ofChange planRestocksWrong)

/-- 'larderlaw17.PlanTrips': WHATEVER THE INPUT: true; the input reads as it did. -/
def planTripsSpec : ChangeSpec := { name := "planTrips", fn := fun _ => fun
  | [d] => { results := [.lit (.bool true)], args := [d] }
  | _ => none }
def planTripsRow : OpenClaim := { program := "ytgnnopjkbmbjbaa", sum := "1ff90fb98e97a3e6a407219dfa4529c655e471e748148f402b915e8c6331c52e", func := "larder/larderlaw17.PlanTrips", spec := "planTrips", unfollowed := true, recurses := true, apart := false }
def PlanTripsSaid : Prop := planTripsRow.holds Try.pinned (OpenSpec.ofChange planTripsSpec)

/-- ITS FALSE NEIGHBOUR: 'it returns false'. Refute it at one input. -/
def planTripsWrong : ChangeSpec := { name := "planTrips", fn := fun _ => fun
  | [d] => { results := [.lit (.bool false)], args := [d] }
  | _ => none }
def PlanTripsWrongFalsely : Prop := planTripsRow.holds Try.pinned (OpenSpec.ofChange planTripsWrong)

/-- 'larderlaw17.PlanStrongs': WHATEVER THE INPUT: true; the input reads as it did. -/
def planStrongsSpec : ChangeSpec := { name := "planStrongs", fn := fun _ => fun
  | [d1, d2] => { results := [.lit (.bool true)], args := [d1, d2] }
  | _ => none }
def planStrongsRow : OpenClaim := { program := "ytgnnopjkbmbjbaa", sum := "1ff90fb98e97a3e6a407219dfa4529c655e471e748148f402b915e8c6331c52e", func := "larder/larderlaw17.PlanStrongs", spec := "planStrongs", inPlace := ["math.Float64bits", "math.Float64frombits"], apart := false }
def PlanStrongsSaid : Prop := planStrongsRow.holds Try.pinned (OpenSpec.ofChange planStrongsSpec)

/-- ITS FALSE NEIGHBOUR: 'it returns false'. Refute it at one input. -/
def planStrongsWrong : ChangeSpec := { name := "planStrongs", fn := fun _ => fun
  | [d1, d2] => { results := [.lit (.bool false)], args := [d1, d2] }
  | _ => none }
def PlanStrongsWrongFalsely : Prop := planStrongsRow.holds Try.pinned (OpenSpec.ofChange planStrongsWrong)

/-- 'larderlaw17.PlanShortest': WHATEVER THE INPUT: true; the input reads as it did. -/
def planShortestSpec : ChangeSpec := { name := "planShortest", fn := fun _ => fun
  | [d1, d2] => { results := [.lit (.bool true)], args := [d1, d2] }
  | _ => none }
def planShortestRow : OpenClaim := { program := "ytgnnopjkbmbjbaa", sum := "1ff90fb98e97a3e6a407219dfa4529c655e471e748148f402b915e8c6331c52e", func := "larder/larderlaw17.PlanShortest", spec := "planShortest", unfollowed := true, recurses := true, apart := false }
def PlanShortestSaid : Prop := planShortestRow.holds Try.pinned (OpenSpec.ofChange planShortestSpec)

/-- ITS FALSE NEIGHBOUR: 'it returns false'. Refute it at one input. -/
def planShortestWrong : ChangeSpec := { name := "planShortest", fn := fun _ => fun
  | [d1, d2] => { results := [.lit (.bool false)], args := [d1, d2] }
  | _ => none }
def PlanShortestWrongFalsely : Prop := planShortestRow.holds Try.pinned (OpenSpec.ofChange planShortestWrong)

/- THE SECOND FORM. 'bulk': how many values and letters a reading holds, each counted each time it is reached (what is shared counts as often as it is met; a slice's spare places count too). A statement '..UptoSaid' is the law's where the arguments, and the package variables that the reading takes, are together of bulk at most 1048576: NARROWER than '..Said'. Prove '..Said' where nothing that the law and all that it calls make is longer than what came in: it says more and counts as full. Else prove '..UptoSaid'. A law counts once. -/
mutual
def uptoBulk {H : Type} : DataW H → Nat
  | .lit (.string bytes) => bytes.length + 1
  | .lit _ => 1
  | .nil => 1
  | .ptr d => uptoBulk d + 1
  | .slice elems spare => uptoBulkAll elems + uptoBulkAll spare + 1
  | .agg parts => uptoBulkAll parts + 1
  | .iface _ d => uptoBulk d + 1
  | .map entries => uptoBulkEntries entries + 1
  | .held _ => 1
def uptoBulkAll {H : Type} : List (DataW H) → Nat
  | [] => 0
  | d :: r => uptoBulk d + uptoBulkAll r
def uptoBulkEntries {H : Type} : List (Lit × DataW H) → Nat
  | [] => 0
  | x :: r => uptoBulkEntry x + uptoBulkEntries r
def uptoBulkEntry {H : Type} : Lit × DataW H → Nat
  | (.string bytes, d) => bytes.length + uptoBulk d + 1
  | (_, d) => uptoBulk d + 1
 end
def uptoSmall : (H : Type) → List (DataW H) → Bool := fun _ ds => decide (uptoBulkAll ds ≤ 1048576)
def OpenSpec.upto (s : _root_.Go.ChangeSpec) : _root_.Go.OpenSpec := { _root_.Go.OpenSpec.ofChange s with cond := some uptoSmall }

/-- 'larderlaw17.PlanOrders', WHERE WHAT IT READS IS OF BULK AT MOST 1048576: true; the input reads as it did. -/
def planOrdersUptoRow : OpenClaim := { program := "ytgnnopjkbmbjbaa", sum := "1ff90fb98e97a3e6a407219dfa4529c655e471e748148f402b915e8c6331c52e", func := "larder/larderlaw17.PlanOrders", spec := "planOrders", apart := false, narrowed := true }
def PlanOrdersUptoSaid : Prop := planOrdersUptoRow.holds Try.pinned (OpenSpec.upto planOrdersSpec)

/-- 'larderlaw17.PlanRestocks', WHERE WHAT IT READS IS OF BULK AT MOST 1048576: true; the input reads as it did. -/
def planRestocksUptoRow : OpenClaim := { program := "ytgnnopjkbmbjbaa", sum := "1ff90fb98e97a3e6a407219dfa4529c655e471e748148f402b915e8c6331c52e", func := "larder/larderlaw17.PlanRestocks", spec := "planRestocks", apart := false, narrowed := true }
def PlanRestocksUptoSaid : Prop := planRestocksUptoRow.holds Try.pinned (OpenSpec.upto planRestocksSpec)

/-- 'larderlaw17.PlanTrips', WHERE WHAT IT READS IS OF BULK AT MOST 1048576: true; the input reads as it did. -/
def planTripsUptoRow : OpenClaim := { program := "ytgnnopjkbmbjbaa", sum := "1ff90fb98e97a3e6a407219dfa4529c655e471e748148f402b915e8c6331c52e", func := "larder/larderlaw17.PlanTrips", spec := "planTrips", unfollowed := true, recurses := true, apart := false, narrowed := true }
def PlanTripsUptoSaid : Prop := planTripsUptoRow.holds Try.pinned (OpenSpec.upto planTripsSpec)

/-- 'larderlaw17.PlanStrongs', WHERE WHAT IT READS IS OF BULK AT MOST 1048576: true; the input reads as it did. -/
def planStrongsUptoRow : OpenClaim := { program := "ytgnnopjkbmbjbaa", sum := "1ff90fb98e97a3e6a407219dfa4529c655e471e748148f402b915e8c6331c52e", func := "larder/larderlaw17.PlanStrongs", spec := "planStrongs", inPlace := ["math.Float64bits", "math.Float64frombits"], apart := false, narrowed := true }
def PlanStrongsUptoSaid : Prop := planStrongsUptoRow.holds Try.pinned (OpenSpec.upto planStrongsSpec)

/-- 'larderlaw17.PlanShortest', WHERE WHAT IT READS IS OF BULK AT MOST 1048576: true; the input reads as it did. -/
def planShortestUptoRow : OpenClaim := { program := "ytgnnopjkbmbjbaa", sum := "1ff90fb98e97a3e6a407219dfa4529c655e471e748148f402b915e8c6331c52e", func := "larder/larderlaw17.PlanShortest", spec := "planShortest", unfollowed := true, recurses := true, apart := false, narrowed := true }
def PlanShortestUptoSaid : Prop := planShortestUptoRow.holds Try.pinned (OpenSpec.upto planShortestSpec)

end Rows
end Go.Proofs.Ytgnnopjkbmbjbaa
