/-
  NARROWER THAN 'FOR EVERY INPUT', by the rows' own cells (each row's printed sentence says how): GtinOwn: laid.
  DERIVED. THE GIVEN ROWS OF THIS SEAT. 1 by the template 'for every input the law returns true; each argument reads behind the call as it read before'; 0 by the template 'total and deterministic' (their statements: YtpplkoilpblpkaaDoorTotals.lean).
  GIVEN WITH THE SEED: the statements are not yours to turn. If you find one false, say at which input.
  Laid BY PROGRAM, IN A SANDBOX (cutbox-rows.mjs): the forced cells as the released guide's own fill.sh prints them over the translation 84bd093a69159f70… (all of the seat's roots in one cut). By AI agents, Wed Nov 11 2026. No macro, syntax, notation, axiom, sorry.
-/
import Derived.Test.YtpplkoilpblpkaaDoorChecked
import GoSem.Claim
import GoSem.ClaimJoined
import GoSem.ClaimMapViews
import Derived.JoinedTies
import Derived.KernelRfl
namespace Go.Proofs.YtpplkoilpblpkaaDoor
/- THE CELL 'sum', in the pinned program and in every row, IS THE sha256 OF THE DUMP (.gsa) THAT YtpplkoilpblpkaaDoorProg.lean LOADS. Nothing in Lean hashes anything: it is a label: what it is worth is what the hold of that sum in a sandbox is worth. -/
noncomputable def Tryd.pinned : Pinned := { name := "ytpplkoilpblpkaadoor", sum := "84bd093a69159f7017c11511651b29a0d82e0f947cd399fccbad72035bffab0c", checked := Tryd.checked }
namespace Rows
def none {H : Type} : Left H := { results := [], args := [] }

/- WHAT THE LISTED PACKAGE-LEVEL VARIABLES READ AS WHEN THE CALL BEGINS. Each datum BY PROGRAM (the guide's laid-datum.mjs) off the statement by which the dump's own 'gosem.cut.vars' lays the variable. In a bare row this is a premise. The card (YtpplkoilpblpkaaDoorCards.lean) ties it to the program's text. -/
def laid_larder_gtin_knowns {H : Type} : DataW H := .agg [.agg [.lit (.string [48, 48]), .lit (.int .i64 0)], .agg [.lit (.string [48, 49]), .lit (.int .i64 1)], .agg [.lit (.string [48, 50]), .lit (.int .i64 1)], .agg [.lit (.string [49, 48]), .lit (.int .i64 9)], .agg [.lit (.string [50, 49]), .lit (.int .i64 9)], .agg [.lit (.string [49, 49]), .lit (.int .i64 3)], .agg [.lit (.string [49, 51]), .lit (.int .i64 3)], .agg [.lit (.string [49, 53]), .lit (.int .i64 3)], .agg [.lit (.string [49, 55]), .lit (.int .i64 3)], .agg [.lit (.string [50, 48]), .lit (.int .i64 4)], .agg [.lit (.string [51, 48]), .lit (.int .i64 5)], .agg [.lit (.string [51, 55]), .lit (.int .i64 5)], .agg [.lit (.string [51, 49, 48, 48]), .lit (.int .i64 6)], .agg [.lit (.string [51, 49, 48, 49]), .lit (.int .i64 6)], .agg [.lit (.string [51, 49, 48, 50]), .lit (.int .i64 6)], .agg [.lit (.string [51, 49, 48, 51]), .lit (.int .i64 6)], .agg [.lit (.string [51, 49, 48, 52]), .lit (.int .i64 6)], .agg [.lit (.string [51, 49, 48, 53]), .lit (.int .i64 6)], .agg [.lit (.string [51, 57, 50, 48]), .lit (.int .i64 7)], .agg [.lit (.string [51, 57, 50, 49]), .lit (.int .i64 7)], .agg [.lit (.string [51, 57, 50, 50]), .lit (.int .i64 7)], .agg [.lit (.string [51, 57, 50, 51]), .lit (.int .i64 7)], .agg [.lit (.string [52, 48, 48]), .lit (.int .i64 11)], .agg [.lit (.string [52, 49, 48]), .lit (.int .i64 2)], .agg [.lit (.string [52, 49, 49]), .lit (.int .i64 2)], .agg [.lit (.string [52, 49, 52]), .lit (.int .i64 2)], .agg [.lit (.string [52, 50, 48]), .lit (.int .i64 9)], .agg [.lit (.string [56, 48, 48, 53]), .lit (.int .i64 8)], .agg [.lit (.string [56, 48, 50, 48]), .lit (.int .i64 10)], .agg [.lit (.string [57, 48]), .lit (.int .i64 11)], .agg [.lit (.string [57, 49]), .lit (.int .i64 12)], .agg [.lit (.string [57, 50]), .lit (.int .i64 12)], .agg [.lit (.string [57, 51]), .lit (.int .i64 12)], .agg [.lit (.string [57, 52]), .lit (.int .i64 12)], .agg [.lit (.string [57, 53]), .lit (.int .i64 12)], .agg [.lit (.string [57, 54]), .lit (.int .i64 12)], .agg [.lit (.string [57, 55]), .lit (.int .i64 12)], .agg [.lit (.string [57, 56]), .lit (.int .i64 12)], .agg [.lit (.string [57, 57]), .lit (.int .i64 12)]]

/-- 'larderlaw02.GtinOwn': WHATEVER THE INPUT: true; the input reads as it did. -/
def gtinOwnSpec : ChangeSpec := { name := "gtinOwn", fn := fun _ => fun
  | [d] => { results := [.lit (.bool true)], args := [d] }
  | _ => none }
def gtinOwnRow : OpenClaim := { program := "ytpplkoilpblpkaadoor", sum := "84bd093a69159f7017c11511651b29a0d82e0f947cd399fccbad72035bffab0c", func := "larder/larderlaw02.GtinOwn", spec := "gtinOwn", inPlace := ["internal/bytealg.IndexByteString", "internal/abi.NoEscape"], unfollowed := true, recurses := true, named := ["larder/gtin.knowns"], apart := false, laid := [("larder/gtin.knowns", laid_larder_gtin_knowns)] }
def GtinOwnSaid : Prop := gtinOwnRow.holds Tryd.pinned (OpenSpec.ofChange gtinOwnSpec)

/-- ITS FALSE NEIGHBOUR: 'it returns false'. Refute it at one input. -/
def gtinOwnWrong : ChangeSpec := { name := "gtinOwn", fn := fun _ => fun
  | [d] => { results := [.lit (.bool false)], args := [d] }
  | _ => none }
def GtinOwnWrongFalsely : Prop := gtinOwnRow.holds Tryd.pinned (OpenSpec.ofChange gtinOwnWrong)

/- THE SECOND FORM. 'bulk': how many values and letters a reading holds, each counted each time it is reached (what is shared counts as often as it is met; a slice's spare places count too). A statement '..UptoSaid' is the law's where the arguments, and the package variables that the reading takes, are together of bulk at most 1048576: NARROWER than '..Said'. Prove '..Said' where nothing that the law and all that it calls make is longer than what came in: it says more and counts as full. Else prove '..UptoSaid'. A law counts once. -/
mutual
def uptoBulk {H : Type} : DataW H → Nat
  | .lit (.string bytes) => bytes.length + 1
  | .lit _ => 1
  | .nil => 1
  | .ptr d => uptoBulk d + 1
  | .slice elems spare => uptoBulkAll elems + uptoBulkAll spare + 1
  | .agg parts => uptoBulkAll parts + 1
  | .iface _ d => uptoBulk d + 1
  | .map entries => uptoBulkEntries entries + 1
  | .held _ => 1
def uptoBulkAll {H : Type} : List (DataW H) → Nat
  | [] => 0
  | d :: r => uptoBulk d + uptoBulkAll r
def uptoBulkEntries {H : Type} : List (Lit × DataW H) → Nat
  | [] => 0
  | x :: r => uptoBulkEntry x + uptoBulkEntries r
def uptoBulkEntry {H : Type} : Lit × DataW H → Nat
  | (.string bytes, d) => bytes.length + uptoBulk d + 1
  | (_, d) => uptoBulk d + 1
 end
def uptoSmall : (H : Type) → List (DataW H) → Bool := fun _ ds => decide (uptoBulkAll ds ≤ 1048576)
def OpenSpec.upto (s : _root_.Go.ChangeSpec) : _root_.Go.OpenSpec := { _root_.Go.OpenSpec.ofChange s with cond := some uptoSmall }

/-- 'larderlaw02.GtinOwn', WHERE WHAT IT READS IS OF BULK AT MOST 1048576: true; the input reads as it did. -/
def gtinOwnUptoRow : OpenClaim := { program := "ytpplkoilpblpkaadoor", sum := "84bd093a69159f7017c11511651b29a0d82e0f947cd399fccbad72035bffab0c", func := "larder/larderlaw02.GtinOwn", spec := "gtinOwn", inPlace := ["internal/bytealg.IndexByteString", "internal/abi.NoEscape"], unfollowed := true, recurses := true, named := ["larder/gtin.knowns"], apart := false, laid := [("larder/gtin.knowns", laid_larder_gtin_knowns)], narrowed := true }
def GtinOwnUptoSaid : Prop := gtinOwnUptoRow.holds Tryd.pinned (OpenSpec.upto gtinOwnSpec)

end Rows
end Go.Proofs.YtpplkoilpblpkaaDoor
