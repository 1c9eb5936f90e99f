/-
  No cell of these rows narrows 'for every input' (looked for: loops, veiled, ifaces, maps, wideKeys, modest, calm, conditions, laid).
  DERIVED. THE GIVEN ROWS OF THIS SEAT. 6 by the template 'for every input the law returns true; each argument reads behind the call as it read before'; 0 by the template 'total and deterministic' (their statements: YtecjpjjcahanoabTotals.lean).
  GIVEN WITH THE SEED: the statements are not yours to turn. If you find one false, say at which input.
  Laid BY PROGRAM, IN A SANDBOX (cutbox-rows.mjs): the forced cells as the released guide's own fill.sh prints them over the translation 85841995e309c101… (all of the seat's roots in one cut). By AI agents, Wed Nov 11 2026. No macro, syntax, notation, axiom, sorry.
-/
import Derived.Test.YtecjpjjcahanoabChecked
import GoSem.Claim
import GoSem.ClaimJoined
import GoSem.ClaimMapViews
import Derived.JoinedTies
import Derived.KernelRfl
namespace Go.Proofs.Ytecjpjjcahanoab
/- THE CELL 'sum', in the pinned program and in every row, IS THE sha256 OF THE DUMP (.gsa) THAT YtecjpjjcahanoabProg.lean LOADS. Nothing in Lean hashes anything: it is a label: what it is worth is what the hold of that sum in a sandbox is worth. -/
noncomputable def Try.pinned : Pinned := { name := "ytecjpjjcahanoab", sum := "85841995e309c101fb14e9dc6c7718fa1906f2b1cc973f0bf5a25e917e11d40b", checked := Try.checked }
namespace Rows
def none {H : Type} : Left H := { results := [], args := [] }

/-- 'larderlaw07.SchedLines': WHATEVER THE INPUT: true; the input reads as it did. -/
def schedLinesSpec : ChangeSpec := { name := "schedLines", fn := fun _ => fun
  | [d1, d2, d3] => { results := [.lit (.bool true)], args := [d1, d2, d3] }
  | _ => none }
def schedLinesRow : OpenClaim := { program := "ytecjpjjcahanoab", sum := "85841995e309c101fb14e9dc6c7718fa1906f2b1cc973f0bf5a25e917e11d40b", func := "larder/larderlaw07.SchedLines", spec := "schedLines", apart := false }
def SchedLinesSaid : Prop := schedLinesRow.holds Try.pinned (OpenSpec.ofChange schedLinesSpec)

/-- ITS FALSE NEIGHBOUR: 'it returns false'. Refute it at one input. -/
def schedLinesWrong : ChangeSpec := { name := "schedLines", fn := fun _ => fun
  | [d1, d2, d3] => { results := [.lit (.bool false)], args := [d1, d2, d3] }
  | _ => none }
def SchedLinesWrongFalsely : Prop := schedLinesRow.holds Try.pinned (OpenSpec.ofChange schedLinesWrong)

/-- 'larderlaw07.SchedThere': WHATEVER THE INPUT: true; the input reads as it did. -/
def schedThereSpec : ChangeSpec := { name := "schedThere", fn := fun _ => fun
  | [d1, d2] => { results := [.lit (.bool true)], args := [d1, d2] }
  | _ => none }
def schedThereRow : OpenClaim := { program := "ytecjpjjcahanoab", sum := "85841995e309c101fb14e9dc6c7718fa1906f2b1cc973f0bf5a25e917e11d40b", func := "larder/larderlaw07.SchedThere", spec := "schedThere", named := ["math/bits.divideError", "math/bits.overflowError"], apart := false }
def SchedThereSaid : Prop := schedThereRow.holds Try.pinned (OpenSpec.ofChange schedThereSpec)

/-- ITS FALSE NEIGHBOUR: 'it returns false'. Refute it at one input. -/
def schedThereWrong : ChangeSpec := { name := "schedThere", fn := fun _ => fun
  | [d1, d2] => { results := [.lit (.bool false)], args := [d1, d2] }
  | _ => none }
def SchedThereWrongFalsely : Prop := schedThereRow.holds Try.pinned (OpenSpec.ofChange schedThereWrong)

/-- 'larderlaw07.SchedWaits': WHATEVER THE INPUT: true; the input reads as it did. -/
def schedWaitsSpec : ChangeSpec := { name := "schedWaits", fn := fun _ => fun
  | [d1, d2, d3, d4] => { results := [.lit (.bool true)], args := [d1, d2, d3, d4] }
  | _ => none }
def schedWaitsRow : OpenClaim := { program := "ytecjpjjcahanoab", sum := "85841995e309c101fb14e9dc6c7718fa1906f2b1cc973f0bf5a25e917e11d40b", func := "larder/larderlaw07.SchedWaits", spec := "schedWaits", unfollowed := true, recurses := true, apart := false }
def SchedWaitsSaid : Prop := schedWaitsRow.holds Try.pinned (OpenSpec.ofChange schedWaitsSpec)

/-- ITS FALSE NEIGHBOUR: 'it returns false'. Refute it at one input. -/
def schedWaitsWrong : ChangeSpec := { name := "schedWaits", fn := fun _ => fun
  | [d1, d2, d3, d4] => { results := [.lit (.bool false)], args := [d1, d2, d3, d4] }
  | _ => none }
def SchedWaitsWrongFalsely : Prop := schedWaitsRow.holds Try.pinned (OpenSpec.ofChange schedWaitsWrong)

/-- 'larderlaw07.SchedRise': WHATEVER THE INPUT: true; the input reads as it did. -/
def schedRiseSpec : ChangeSpec := { name := "schedRise", fn := fun _ => fun
  | [d1, d2, d3, d4] => { results := [.lit (.bool true)], args := [d1, d2, d3, d4] }
  | _ => none }
def schedRiseRow : OpenClaim := { program := "ytecjpjjcahanoab", sum := "85841995e309c101fb14e9dc6c7718fa1906f2b1cc973f0bf5a25e917e11d40b", func := "larder/larderlaw07.SchedRise", spec := "schedRise", unfollowed := true, recurses := true, apart := false }
def SchedRiseSaid : Prop := schedRiseRow.holds Try.pinned (OpenSpec.ofChange schedRiseSpec)

/-- ITS FALSE NEIGHBOUR: 'it returns false'. Refute it at one input. -/
def schedRiseWrong : ChangeSpec := { name := "schedRise", fn := fun _ => fun
  | [d1, d2, d3, d4] => { results := [.lit (.bool false)], args := [d1, d2, d3, d4] }
  | _ => none }
def SchedRiseWrongFalsely : Prop := schedRiseRow.holds Try.pinned (OpenSpec.ofChange schedRiseWrong)

/-- 'larderlaw07.SchedAlls': WHATEVER THE INPUT: true; the input reads as it did. -/
def schedAllsSpec : ChangeSpec := { name := "schedAlls", fn := fun _ => fun
  | [d1, d2, d3] => { results := [.lit (.bool true)], args := [d1, d2, d3] }
  | _ => none }
def schedAllsRow : OpenClaim := { program := "ytecjpjjcahanoab", sum := "85841995e309c101fb14e9dc6c7718fa1906f2b1cc973f0bf5a25e917e11d40b", func := "larder/larderlaw07.SchedAlls", spec := "schedAlls", unfollowed := true, recurses := true, apart := false }
def SchedAllsSaid : Prop := schedAllsRow.holds Try.pinned (OpenSpec.ofChange schedAllsSpec)

/-- ITS FALSE NEIGHBOUR: 'it returns false'. Refute it at one input. -/
def schedAllsWrong : ChangeSpec := { name := "schedAlls", fn := fun _ => fun
  | [d1, d2, d3] => { results := [.lit (.bool false)], args := [d1, d2, d3] }
  | _ => none }
def SchedAllsWrongFalsely : Prop := schedAllsRow.holds Try.pinned (OpenSpec.ofChange schedAllsWrong)

/-- 'larderlaw07.SchedSmall': WHATEVER THE INPUT: true; the input reads as it did. -/
def schedSmallSpec : ChangeSpec := { name := "schedSmall", fn := fun _ => fun
  | [d1, d2] => { results := [.lit (.bool true)], args := [d1, d2] }
  | _ => none }
def schedSmallRow : OpenClaim := { program := "ytecjpjjcahanoab", sum := "85841995e309c101fb14e9dc6c7718fa1906f2b1cc973f0bf5a25e917e11d40b", func := "larder/larderlaw07.SchedSmall", spec := "schedSmall", unfollowed := true, recurses := true, named := ["math/bits.divideError", "math/bits.overflowError"], apart := false }
def SchedSmallSaid : Prop := schedSmallRow.holds Try.pinned (OpenSpec.ofChange schedSmallSpec)

/-- ITS FALSE NEIGHBOUR: 'it returns false'. Refute it at one input. -/
def schedSmallWrong : ChangeSpec := { name := "schedSmall", fn := fun _ => fun
  | [d1, d2] => { results := [.lit (.bool false)], args := [d1, d2] }
  | _ => none }
def SchedSmallWrongFalsely : Prop := schedSmallRow.holds Try.pinned (OpenSpec.ofChange schedSmallWrong)

/- THE SECOND FORM. 'bulk': how many values and letters a reading holds, each counted each time it is reached (what is shared counts as often as it is met; a slice's spare places count too). A statement '..UptoSaid' is the law's where the arguments, and the package variables that the reading takes, are together of bulk at most 1048576: NARROWER than '..Said'. Prove '..Said' where nothing that the law and all that it calls make is longer than what came in: it says more and counts as full. Else prove '..UptoSaid'. A law counts once. -/
mutual
def uptoBulk {H : Type} : DataW H → Nat
  | .lit (.string bytes) => bytes.length + 1
  | .lit _ => 1
  | .nil => 1
  | .ptr d => uptoBulk d + 1
  | .slice elems spare => uptoBulkAll elems + uptoBulkAll spare + 1
  | .agg parts => uptoBulkAll parts + 1
  | .iface _ d => uptoBulk d + 1
  | .map entries => uptoBulkEntries entries + 1
  | .held _ => 1
def uptoBulkAll {H : Type} : List (DataW H) → Nat
  | [] => 0
  | d :: r => uptoBulk d + uptoBulkAll r
def uptoBulkEntries {H : Type} : List (Lit × DataW H) → Nat
  | [] => 0
  | x :: r => uptoBulkEntry x + uptoBulkEntries r
def uptoBulkEntry {H : Type} : Lit × DataW H → Nat
  | (.string bytes, d) => bytes.length + uptoBulk d + 1
  | (_, d) => uptoBulk d + 1
 end
def uptoSmall : (H : Type) → List (DataW H) → Bool := fun _ ds => decide (uptoBulkAll ds ≤ 1048576)
def OpenSpec.upto (s : _root_.Go.ChangeSpec) : _root_.Go.OpenSpec := { _root_.Go.OpenSpec.ofChange s with cond := some uptoSmall }

/-- 'larderlaw07.SchedLines', WHERE WHAT IT READS IS OF BULK AT MOST 1048576: true; the input reads as it did. -/
def schedLinesUptoRow : OpenClaim := { program := "ytecjpjjcahanoab", sum := "85841995e309c101fb14e9dc6c7718fa1906f2b1cc973f0bf5a25e917e11d40b", func := "larder/larderlaw07.SchedLines", spec := "schedLines", apart := false, narrowed := true }
def SchedLinesUptoSaid : Prop := schedLinesUptoRow.holds Try.pinned (OpenSpec.upto schedLinesSpec)

/-- 'larderlaw07.SchedThere', WHERE WHAT IT READS IS OF BULK AT MOST 1048576: true; the input reads as it did. -/
def schedThereUptoRow : OpenClaim := { program := "ytecjpjjcahanoab", sum := "85841995e309c101fb14e9dc6c7718fa1906f2b1cc973f0bf5a25e917e11d40b", func := "larder/larderlaw07.SchedThere", spec := "schedThere", named := ["math/bits.divideError", "math/bits.overflowError"], apart := false, narrowed := true }
def SchedThereUptoSaid : Prop := schedThereUptoRow.holds Try.pinned (OpenSpec.upto schedThereSpec)

/-- 'larderlaw07.SchedWaits', WHERE WHAT IT READS IS OF BULK AT MOST 1048576: true; the input reads as it did. -/
def schedWaitsUptoRow : OpenClaim := { program := "ytecjpjjcahanoab", sum := "85841995e309c101fb14e9dc6c7718fa1906f2b1cc973f0bf5a25e917e11d40b", func := "larder/larderlaw07.SchedWaits", spec := "schedWaits", unfollowed := true, recurses := true, apart := false, narrowed := true }
def SchedWaitsUptoSaid : Prop := schedWaitsUptoRow.holds Try.pinned (OpenSpec.upto schedWaitsSpec)

/-- 'larderlaw07.SchedRise', WHERE WHAT IT READS IS OF BULK AT MOST 1048576: true; the input reads as it did. -/
def schedRiseUptoRow : OpenClaim := { program := "ytecjpjjcahanoab", sum := "85841995e309c101fb14e9dc6c7718fa1906f2b1cc973f0bf5a25e917e11d40b", func := "larder/larderlaw07.SchedRise", spec := "schedRise", unfollowed := true, recurses := true, apart := false, narrowed := true }
def SchedRiseUptoSaid : Prop := schedRiseUptoRow.holds Try.pinned (OpenSpec.upto schedRiseSpec)

/-- 'larderlaw07.SchedAlls', WHERE WHAT IT READS IS OF BULK AT MOST 1048576: true; the input reads as it did. -/
def schedAllsUptoRow : OpenClaim := { program := "ytecjpjjcahanoab", sum := "85841995e309c101fb14e9dc6c7718fa1906f2b1cc973f0bf5a25e917e11d40b", func := "larder/larderlaw07.SchedAlls", spec := "schedAlls", unfollowed := true, recurses := true, apart := false, narrowed := true }
def SchedAllsUptoSaid : Prop := schedAllsUptoRow.holds Try.pinned (OpenSpec.upto schedAllsSpec)

/-- 'larderlaw07.SchedSmall', WHERE WHAT IT READS IS OF BULK AT MOST 1048576: true; the input reads as it did. -/
def schedSmallUptoRow : OpenClaim := { program := "ytecjpjjcahanoab", sum := "85841995e309c101fb14e9dc6c7718fa1906f2b1cc973f0bf5a25e917e11d40b", func := "larder/larderlaw07.SchedSmall", spec := "schedSmall", unfollowed := true, recurses := true, named := ["math/bits.divideError", "math/bits.overflowError"], apart := false, narrowed := true }
def SchedSmallUptoSaid : Prop := schedSmallUptoRow.holds Try.pinned (OpenSpec.upto schedSmallSpec)

end Rows
end Go.Proofs.Ytecjpjjcahanoab
