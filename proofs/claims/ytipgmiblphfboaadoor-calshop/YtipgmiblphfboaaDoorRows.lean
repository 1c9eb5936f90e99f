/-
  NARROWER THAN 'FOR EVERY INPUT', by the rows' own cells (each row's printed sentence says how): CalShop: laid · CalOpens: laid.
  DERIVED. THE GIVEN ROWS OF THIS SEAT. 2 by the template 'for every input the law returns true; each argument reads behind the call as it read before'; 0 by the template 'total and deterministic' (their statements: YtipgmiblphfboaaDoorTotals.lean).
  GIVEN WITH THE SEED: the statements are not yours to turn. If you find one false, say at which input.
  Laid BY PROGRAM, IN A SANDBOX (cutbox-rows.mjs): the forced cells as the released guide's own fill.sh prints them over the translation 2d44bbf98cad9837… (all of the seat's roots in one cut). By AI agents, Wed Nov 11 2026. No macro, syntax, notation, axiom, sorry.
-/
import Derived.Test.YtipgmiblphfboaaDoorChecked
import GoSem.Claim
import GoSem.ClaimJoined
import GoSem.ClaimMapViews
import Derived.JoinedTies
import Derived.KernelRfl
namespace Go.Proofs.YtipgmiblphfboaaDoor
/- THE CELL 'sum', in the pinned program and in every row, IS THE sha256 OF THE DUMP (.gsa) THAT YtipgmiblphfboaaDoorProg.lean LOADS. Nothing in Lean hashes anything: it is a label: what it is worth is what the hold of that sum in a sandbox is worth. -/
noncomputable def Tryd.pinned : Pinned := { name := "ytipgmiblphfboaadoor", sum := "2d44bbf98cad98374c3b38b5e8ad05a0d664f26dec299e25ed12b676ee15a1ce", checked := Tryd.checked }
namespace Rows
def none {H : Type} : Left H := { results := [], args := [] }

/- WHAT THE LISTED PACKAGE-LEVEL VARIABLES READ AS WHEN THE CALL BEGINS. Each datum BY PROGRAM (the guide's laid-datum.mjs) off the statement by which the dump's own 'gosem.cut.vars' lays the variable. In a bare row this is a premise. The card (YtipgmiblphfboaaDoorCards.lean) ties it to the program's text. -/
def laid_larder_cal_ahead {H : Type} : DataW H := .agg [.lit (.int .i64 0), .lit (.int .i64 31), .lit (.int .i64 59), .lit (.int .i64 90), .lit (.int .i64 120), .lit (.int .i64 151), .lit (.int .i64 181), .lit (.int .i64 212), .lit (.int .i64 243), .lit (.int .i64 273), .lit (.int .i64 304), .lit (.int .i64 334), .lit (.int .i64 365)]
def laid_larder_larderlaw03_mark {H : Type} : DataW H := .agg [.lit (.int .i64 1), .lit (.int .i64 2), .lit (.int .i64 3)]

/-- 'larderlaw03.CalShop': WHATEVER THE INPUT: true; the input reads as it did. -/
def calShopSpec : ChangeSpec := { name := "calShop", fn := fun _ => fun
  | [d1, d2, d3, d4, d5] => { results := [.lit (.bool true)], args := [d1, d2, d3, d4, d5] }
  | _ => none }
def calShopRow : OpenClaim := { program := "ytipgmiblphfboaadoor", sum := "2d44bbf98cad98374c3b38b5e8ad05a0d664f26dec299e25ed12b676ee15a1ce", func := "larder/larderlaw03.CalShop", spec := "calShop", unfollowed := true, recurses := true, named := ["larder/cal.ahead"], apart := false, laid := [("larder/cal.ahead", laid_larder_cal_ahead)] }
def CalShopSaid : Prop := calShopRow.holds Tryd.pinned (OpenSpec.ofChange calShopSpec)

/-- ITS FALSE NEIGHBOUR: 'it returns false'. Refute it at one input. -/
def calShopWrong : ChangeSpec := { name := "calShop", fn := fun _ => fun
  | [d1, d2, d3, d4, d5] => { results := [.lit (.bool false)], args := [d1, d2, d3, d4, d5] }
  | _ => none }
def CalShopWrongFalsely : Prop := calShopRow.holds Tryd.pinned (OpenSpec.ofChange calShopWrong)

/-- 'larderlaw03.CalOpens': WHATEVER THE INPUT: true; the input reads as it did. -/
def calOpensSpec : ChangeSpec := { name := "calOpens", fn := fun _ => fun
  | [d1, d2, d3, d4] => { results := [.lit (.bool true)], args := [d1, d2, d3, d4] }
  | _ => none }
def calOpensRow : OpenClaim := { program := "ytipgmiblphfboaadoor", sum := "2d44bbf98cad98374c3b38b5e8ad05a0d664f26dec299e25ed12b676ee15a1ce", func := "larder/larderlaw03.CalOpens", spec := "calOpens", unfollowed := true, recurses := true, named := ["larder/larderlaw03.mark", "larder/cal.ahead"], apart := false, laid := [("larder/cal.ahead", laid_larder_cal_ahead), ("larder/larderlaw03.mark", laid_larder_larderlaw03_mark)] }
def CalOpensSaid : Prop := calOpensRow.holds Tryd.pinned (OpenSpec.ofChange calOpensSpec)

/-- ITS FALSE NEIGHBOUR: 'it returns false'. Refute it at one input. -/
def calOpensWrong : ChangeSpec := { name := "calOpens", fn := fun _ => fun
  | [d1, d2, d3, d4] => { results := [.lit (.bool false)], args := [d1, d2, d3, d4] }
  | _ => none }
def CalOpensWrongFalsely : Prop := calOpensRow.holds Tryd.pinned (OpenSpec.ofChange calOpensWrong)

/- THE SECOND FORM. 'bulk': how many values and letters a reading holds, each counted each time it is reached (what is shared counts as often as it is met; a slice's spare places count too). A statement '..UptoSaid' is the law's where the arguments, and the package variables that the reading takes, are together of bulk at most 1048576: NARROWER than '..Said'. Prove '..Said' where nothing that the law and all that it calls make is longer than what came in: it says more and counts as full. Else prove '..UptoSaid'. A law counts once. -/
mutual
def uptoBulk {H : Type} : DataW H → Nat
  | .lit (.string bytes) => bytes.length + 1
  | .lit _ => 1
  | .nil => 1
  | .ptr d => uptoBulk d + 1
  | .slice elems spare => uptoBulkAll elems + uptoBulkAll spare + 1
  | .agg parts => uptoBulkAll parts + 1
  | .iface _ d => uptoBulk d + 1
  | .map entries => uptoBulkEntries entries + 1
  | .held _ => 1
def uptoBulkAll {H : Type} : List (DataW H) → Nat
  | [] => 0
  | d :: r => uptoBulk d + uptoBulkAll r
def uptoBulkEntries {H : Type} : List (Lit × DataW H) → Nat
  | [] => 0
  | x :: r => uptoBulkEntry x + uptoBulkEntries r
def uptoBulkEntry {H : Type} : Lit × DataW H → Nat
  | (.string bytes, d) => bytes.length + uptoBulk d + 1
  | (_, d) => uptoBulk d + 1
 end
def uptoSmall : (H : Type) → List (DataW H) → Bool := fun _ ds => decide (uptoBulkAll ds ≤ 1048576)
def OpenSpec.upto (s : _root_.Go.ChangeSpec) : _root_.Go.OpenSpec := { _root_.Go.OpenSpec.ofChange s with cond := some uptoSmall }

/-- 'larderlaw03.CalShop', WHERE WHAT IT READS IS OF BULK AT MOST 1048576: true; the input reads as it did. -/
def calShopUptoRow : OpenClaim := { program := "ytipgmiblphfboaadoor", sum := "2d44bbf98cad98374c3b38b5e8ad05a0d664f26dec299e25ed12b676ee15a1ce", func := "larder/larderlaw03.CalShop", spec := "calShop", unfollowed := true, recurses := true, named := ["larder/cal.ahead"], apart := false, laid := [("larder/cal.ahead", laid_larder_cal_ahead)], narrowed := true }
def CalShopUptoSaid : Prop := calShopUptoRow.holds Tryd.pinned (OpenSpec.upto calShopSpec)

/-- 'larderlaw03.CalOpens', WHERE WHAT IT READS IS OF BULK AT MOST 1048576: true; the input reads as it did. -/
def calOpensUptoRow : OpenClaim := { program := "ytipgmiblphfboaadoor", sum := "2d44bbf98cad98374c3b38b5e8ad05a0d664f26dec299e25ed12b676ee15a1ce", func := "larder/larderlaw03.CalOpens", spec := "calOpens", unfollowed := true, recurses := true, named := ["larder/larderlaw03.mark", "larder/cal.ahead"], apart := false, laid := [("larder/cal.ahead", laid_larder_cal_ahead), ("larder/larderlaw03.mark", laid_larder_larderlaw03_mark)], narrowed := true }
def CalOpensUptoSaid : Prop := calOpensUptoRow.holds Tryd.pinned (OpenSpec.upto calOpensSpec)

end Rows
end Go.Proofs.YtipgmiblphfboaaDoor
