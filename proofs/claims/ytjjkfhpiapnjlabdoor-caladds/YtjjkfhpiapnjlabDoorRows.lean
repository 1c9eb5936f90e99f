/-
  NARROWER THAN 'FOR EVERY INPUT', by the rows' own cells (each row's printed sentence says how): CalCycle: laid · CalWeekly: laid · CalMonths: laid · CalAdds: laid · CalDays: laid · CalEach: laid.
  DERIVED. THE GIVEN ROWS OF THIS SEAT. 6 by the template 'for every input the law returns true; each argument reads behind the call as it read before'; 0 by the template 'total and deterministic' (their statements: YtjjkfhpiapnjlabDoorTotals.lean).
  GIVEN WITH THE SEED: the statements are not yours to turn. If you find one false, say at which input.
  Laid BY PROGRAM, IN A SANDBOX (cutbox-rows.mjs): the forced cells as the released guide's own fill.sh prints them over the translation 52298c28299c570c… (all of the seat's roots in one cut). By AI agents, Wed Nov 11 2026. No macro, syntax, notation, axiom, sorry.
-/
import Derived.Test.YtjjkfhpiapnjlabDoorChecked
import GoSem.Claim
import GoSem.ClaimJoined
import GoSem.ClaimMapViews
import Derived.JoinedTies
import Derived.KernelRfl
namespace Go.Proofs.YtjjkfhpiapnjlabDoor
/- THE CELL 'sum', in the pinned program and in every row, IS THE sha256 OF THE DUMP (.gsa) THAT YtjjkfhpiapnjlabDoorProg.lean LOADS. Nothing in Lean hashes anything: it is a label: what it is worth is what the hold of that sum in a sandbox is worth. -/
noncomputable def Tryd.pinned : Pinned := { name := "ytjjkfhpiapnjlabdoor", sum := "52298c28299c570cfbf9e8ed0fca6e807d2b58090aaa521759b4ea1bc3954947", checked := Tryd.checked }
namespace Rows
def none {H : Type} : Left H := { results := [], args := [] }

/- WHAT THE LISTED PACKAGE-LEVEL VARIABLES READ AS WHEN THE CALL BEGINS. Each datum BY PROGRAM (the guide's laid-datum.mjs) off the statement by which the dump's own 'gosem.cut.vars' lays the variable. In a bare row this is a premise. The card (YtjjkfhpiapnjlabDoorCards.lean) ties it to the program's text. -/
def laid_larder_cal_ahead {H : Type} : DataW H := .agg [.lit (.int .i64 0), .lit (.int .i64 31), .lit (.int .i64 59), .lit (.int .i64 90), .lit (.int .i64 120), .lit (.int .i64 151), .lit (.int .i64 181), .lit (.int .i64 212), .lit (.int .i64 243), .lit (.int .i64 273), .lit (.int .i64 304), .lit (.int .i64 334), .lit (.int .i64 365)]

/-- 'larderlaw03.CalCycle': WHATEVER THE INPUT: true; the input reads as it did. -/
def calCycleSpec : ChangeSpec := { name := "calCycle", fn := fun _ => fun
  | [d1, d2] => { results := [.lit (.bool true)], args := [d1, d2] }
  | _ => none }
def calCycleRow : OpenClaim := { program := "ytjjkfhpiapnjlabdoor", sum := "52298c28299c570cfbf9e8ed0fca6e807d2b58090aaa521759b4ea1bc3954947", func := "larder/larderlaw03.CalCycle", spec := "calCycle", named := ["larder/cal.ahead"], apart := false, laid := [("larder/cal.ahead", laid_larder_cal_ahead)] }
def CalCycleSaid : Prop := calCycleRow.holds Tryd.pinned (OpenSpec.ofChange calCycleSpec)

/-- ITS FALSE NEIGHBOUR: 'it returns false'. Refute it at one input. -/
def calCycleWrong : ChangeSpec := { name := "calCycle", fn := fun _ => fun
  | [d1, d2] => { results := [.lit (.bool false)], args := [d1, d2] }
  | _ => none }
def CalCycleWrongFalsely : Prop := calCycleRow.holds Tryd.pinned (OpenSpec.ofChange calCycleWrong)

/-- 'larderlaw03.CalWeekly': WHATEVER THE INPUT: true; the input reads as it did. -/
def calWeeklySpec : ChangeSpec := { name := "calWeekly", fn := fun _ => fun
  | [d] => { results := [.lit (.bool true)], args := [d] }
  | _ => none }
def calWeeklyRow : OpenClaim := { program := "ytjjkfhpiapnjlabdoor", sum := "52298c28299c570cfbf9e8ed0fca6e807d2b58090aaa521759b4ea1bc3954947", func := "larder/larderlaw03.CalWeekly", spec := "calWeekly", named := ["larder/cal.ahead"], apart := false, laid := [("larder/cal.ahead", laid_larder_cal_ahead)] }
def CalWeeklySaid : Prop := calWeeklyRow.holds Tryd.pinned (OpenSpec.ofChange calWeeklySpec)

/-- ITS FALSE NEIGHBOUR: 'it returns false'. Refute it at one input. -/
def calWeeklyWrong : ChangeSpec := { name := "calWeekly", fn := fun _ => fun
  | [d] => { results := [.lit (.bool false)], args := [d] }
  | _ => none }
def CalWeeklyWrongFalsely : Prop := calWeeklyRow.holds Tryd.pinned (OpenSpec.ofChange calWeeklyWrong)

/-- 'larderlaw03.CalMonths': WHATEVER THE INPUT: true; the input reads as it did. -/
def calMonthsSpec : ChangeSpec := { name := "calMonths", fn := fun _ => fun
  | [d1, d2, d3, d4, d5] => { results := [.lit (.bool true)], args := [d1, d2, d3, d4, d5] }
  | _ => none }
def calMonthsRow : OpenClaim := { program := "ytjjkfhpiapnjlabdoor", sum := "52298c28299c570cfbf9e8ed0fca6e807d2b58090aaa521759b4ea1bc3954947", func := "larder/larderlaw03.CalMonths", spec := "calMonths", named := ["larder/cal.ahead"], apart := false, laid := [("larder/cal.ahead", laid_larder_cal_ahead)] }
def CalMonthsSaid : Prop := calMonthsRow.holds Tryd.pinned (OpenSpec.ofChange calMonthsSpec)

/-- ITS FALSE NEIGHBOUR: 'it returns false'. Refute it at one input. -/
def calMonthsWrong : ChangeSpec := { name := "calMonths", fn := fun _ => fun
  | [d1, d2, d3, d4, d5] => { results := [.lit (.bool false)], args := [d1, d2, d3, d4, d5] }
  | _ => none }
def CalMonthsWrongFalsely : Prop := calMonthsRow.holds Tryd.pinned (OpenSpec.ofChange calMonthsWrong)

/-- 'larderlaw03.CalAdds': WHATEVER THE INPUT: true; the input reads as it did. -/
def calAddsSpec : ChangeSpec := { name := "calAdds", fn := fun _ => fun
  | [d1, d2] => { results := [.lit (.bool true)], args := [d1, d2] }
  | _ => none }
def calAddsRow : OpenClaim := { program := "ytjjkfhpiapnjlabdoor", sum := "52298c28299c570cfbf9e8ed0fca6e807d2b58090aaa521759b4ea1bc3954947", func := "larder/larderlaw03.CalAdds", spec := "calAdds", named := ["larder/cal.ahead"], apart := false, laid := [("larder/cal.ahead", laid_larder_cal_ahead)] }
def CalAddsSaid : Prop := calAddsRow.holds Tryd.pinned (OpenSpec.ofChange calAddsSpec)

/-- ITS FALSE NEIGHBOUR: 'it returns false'. Refute it at one input. -/
def calAddsWrong : ChangeSpec := { name := "calAdds", fn := fun _ => fun
  | [d1, d2] => { results := [.lit (.bool false)], args := [d1, d2] }
  | _ => none }
def CalAddsWrongFalsely : Prop := calAddsRow.holds Tryd.pinned (OpenSpec.ofChange calAddsWrong)

/-- 'larderlaw03.CalDays': WHATEVER THE INPUT: true; the input reads as it did. -/
def calDaysSpec : ChangeSpec := { name := "calDays", fn := fun _ => fun
  | [d1, d2] => { results := [.lit (.bool true)], args := [d1, d2] }
  | _ => none }
def calDaysRow : OpenClaim := { program := "ytjjkfhpiapnjlabdoor", sum := "52298c28299c570cfbf9e8ed0fca6e807d2b58090aaa521759b4ea1bc3954947", func := "larder/larderlaw03.CalDays", spec := "calDays", named := ["larder/cal.ahead"], apart := false, laid := [("larder/cal.ahead", laid_larder_cal_ahead)] }
def CalDaysSaid : Prop := calDaysRow.holds Tryd.pinned (OpenSpec.ofChange calDaysSpec)

/-- ITS FALSE NEIGHBOUR: 'it returns false'. Refute it at one input. -/
def calDaysWrong : ChangeSpec := { name := "calDays", fn := fun _ => fun
  | [d1, d2] => { results := [.lit (.bool false)], args := [d1, d2] }
  | _ => none }
def CalDaysWrongFalsely : Prop := calDaysRow.holds Tryd.pinned (OpenSpec.ofChange calDaysWrong)

/-- 'larderlaw03.CalEach': WHATEVER THE INPUT: true; the input reads as it did. -/
def calEachSpec : ChangeSpec := { name := "calEach", fn := fun _ => fun
  | [d1, d2, d3, d4] => { results := [.lit (.bool true)], args := [d1, d2, d3, d4] }
  | _ => none }
def calEachRow : OpenClaim := { program := "ytjjkfhpiapnjlabdoor", sum := "52298c28299c570cfbf9e8ed0fca6e807d2b58090aaa521759b4ea1bc3954947", func := "larder/larderlaw03.CalEach", spec := "calEach", unfollowed := true, recurses := true, named := ["larder/cal.ahead"], apart := false, laid := [("larder/cal.ahead", laid_larder_cal_ahead)] }
def CalEachSaid : Prop := calEachRow.holds Tryd.pinned (OpenSpec.ofChange calEachSpec)

/-- ITS FALSE NEIGHBOUR: 'it returns false'. Refute it at one input. -/
def calEachWrong : ChangeSpec := { name := "calEach", fn := fun _ => fun
  | [d1, d2, d3, d4] => { results := [.lit (.bool false)], args := [d1, d2, d3, d4] }
  | _ => none }
def CalEachWrongFalsely : Prop := calEachRow.holds Tryd.pinned (OpenSpec.ofChange calEachWrong)

/- THE SECOND FORM. 'bulk': how many values and letters a reading holds, each counted each time it is reached (what is shared counts as often as it is met; a slice's spare places count too). A statement '..UptoSaid' is the law's where the arguments, and the package variables that the reading takes, are together of bulk at most 1048576: NARROWER than '..Said'. Prove '..Said' where nothing that the law and all that it calls make is longer than what came in: it says more and counts as full. Else prove '..UptoSaid'. A law counts once. -/
mutual
def uptoBulk {H : Type} : DataW H → Nat
  | .lit (.string bytes) => bytes.length + 1
  | .lit _ => 1
  | .nil => 1
  | .ptr d => uptoBulk d + 1
  | .slice elems spare => uptoBulkAll elems + uptoBulkAll spare + 1
  | .agg parts => uptoBulkAll parts + 1
  | .iface _ d => uptoBulk d + 1
  | .map entries => uptoBulkEntries entries + 1
  | .held _ => 1
def uptoBulkAll {H : Type} : List (DataW H) → Nat
  | [] => 0
  | d :: r => uptoBulk d + uptoBulkAll r
def uptoBulkEntries {H : Type} : List (Lit × DataW H) → Nat
  | [] => 0
  | x :: r => uptoBulkEntry x + uptoBulkEntries r
def uptoBulkEntry {H : Type} : Lit × DataW H → Nat
  | (.string bytes, d) => bytes.length + uptoBulk d + 1
  | (_, d) => uptoBulk d + 1
 end
def uptoSmall : (H : Type) → List (DataW H) → Bool := fun _ ds => decide (uptoBulkAll ds ≤ 1048576)
def OpenSpec.upto (s : _root_.Go.ChangeSpec) : _root_.Go.OpenSpec := { _root_.Go.OpenSpec.ofChange s with cond := some uptoSmall }

/-- 'larderlaw03.CalCycle', WHERE WHAT IT READS IS OF BULK AT MOST 1048576: true; the input reads as it did. -/
def calCycleUptoRow : OpenClaim := { program := "ytjjkfhpiapnjlabdoor", sum := "52298c28299c570cfbf9e8ed0fca6e807d2b58090aaa521759b4ea1bc3954947", func := "larder/larderlaw03.CalCycle", spec := "calCycle", named := ["larder/cal.ahead"], apart := false, laid := [("larder/cal.ahead", laid_larder_cal_ahead)], narrowed := true }
def CalCycleUptoSaid : Prop := calCycleUptoRow.holds Tryd.pinned (OpenSpec.upto calCycleSpec)

/-- 'larderlaw03.CalWeekly', WHERE WHAT IT READS IS OF BULK AT MOST 1048576: true; the input reads as it did. -/
def calWeeklyUptoRow : OpenClaim := { program := "ytjjkfhpiapnjlabdoor", sum := "52298c28299c570cfbf9e8ed0fca6e807d2b58090aaa521759b4ea1bc3954947", func := "larder/larderlaw03.CalWeekly", spec := "calWeekly", named := ["larder/cal.ahead"], apart := false, laid := [("larder/cal.ahead", laid_larder_cal_ahead)], narrowed := true }
def CalWeeklyUptoSaid : Prop := calWeeklyUptoRow.holds Tryd.pinned (OpenSpec.upto calWeeklySpec)

/-- 'larderlaw03.CalMonths', WHERE WHAT IT READS IS OF BULK AT MOST 1048576: true; the input reads as it did. -/
def calMonthsUptoRow : OpenClaim := { program := "ytjjkfhpiapnjlabdoor", sum := "52298c28299c570cfbf9e8ed0fca6e807d2b58090aaa521759b4ea1bc3954947", func := "larder/larderlaw03.CalMonths", spec := "calMonths", named := ["larder/cal.ahead"], apart := false, laid := [("larder/cal.ahead", laid_larder_cal_ahead)], narrowed := true }
def CalMonthsUptoSaid : Prop := calMonthsUptoRow.holds Tryd.pinned (OpenSpec.upto calMonthsSpec)

/-- 'larderlaw03.CalAdds', WHERE WHAT IT READS IS OF BULK AT MOST 1048576: true; the input reads as it did. -/
def calAddsUptoRow : OpenClaim := { program := "ytjjkfhpiapnjlabdoor", sum := "52298c28299c570cfbf9e8ed0fca6e807d2b58090aaa521759b4ea1bc3954947", func := "larder/larderlaw03.CalAdds", spec := "calAdds", named := ["larder/cal.ahead"], apart := false, laid := [("larder/cal.ahead", laid_larder_cal_ahead)], narrowed := true }
def CalAddsUptoSaid : Prop := calAddsUptoRow.holds Tryd.pinned (OpenSpec.upto calAddsSpec)

/-- 'larderlaw03.CalDays', WHERE WHAT IT READS IS OF BULK AT MOST 1048576: true; the input reads as it did. -/
def calDaysUptoRow : OpenClaim := { program := "ytjjkfhpiapnjlabdoor", sum := "52298c28299c570cfbf9e8ed0fca6e807d2b58090aaa521759b4ea1bc3954947", func := "larder/larderlaw03.CalDays", spec := "calDays", named := ["larder/cal.ahead"], apart := false, laid := [("larder/cal.ahead", laid_larder_cal_ahead)], narrowed := true }
def CalDaysUptoSaid : Prop := calDaysUptoRow.holds Tryd.pinned (OpenSpec.upto calDaysSpec)

/-- 'larderlaw03.CalEach', WHERE WHAT IT READS IS OF BULK AT MOST 1048576: true; the input reads as it did. -/
def calEachUptoRow : OpenClaim := { program := "ytjjkfhpiapnjlabdoor", sum := "52298c28299c570cfbf9e8ed0fca6e807d2b58090aaa521759b4ea1bc3954947", func := "larder/larderlaw03.CalEach", spec := "calEach", unfollowed := true, recurses := true, named := ["larder/cal.ahead"], apart := false, laid := [("larder/cal.ahead", laid_larder_cal_ahead)], narrowed := true }
def CalEachUptoSaid : Prop := calEachUptoRow.holds Tryd.pinned (OpenSpec.upto calEachSpec)

end Rows
end Go.Proofs.YtjjkfhpiapnjlabDoor
