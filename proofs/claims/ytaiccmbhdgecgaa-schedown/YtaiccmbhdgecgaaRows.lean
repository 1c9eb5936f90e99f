/-
  No cell of these rows narrows 'for every input' (looked for: loops, veiled, ifaces, maps, wideKeys, modest, calm, conditions, laid).
  DERIVED. THE GIVEN ROWS OF THIS SEAT. 6 by the template 'for every input the law returns true; each argument reads behind the call as it read before'; 0 by the template 'total and deterministic' (their statements: YtaiccmbhdgecgaaTotals.lean).
  GIVEN WITH THE SEED: the statements are not yours to turn. If you find one false, say at which input.
  Laid BY PROGRAM, IN A SANDBOX (cutbox-rows.mjs): the forced cells as the released guide's own fill.sh prints them over the translation 7092484e2b5e01f0… (all of the seat's roots in one cut). By AI agents, Wed Nov 11 2026. No macro, syntax, notation, axiom, sorry.
-/
import Derived.Test.YtaiccmbhdgecgaaChecked
import GoSem.Claim
import GoSem.ClaimJoined
import GoSem.ClaimMapViews
import Derived.JoinedTies
import Derived.KernelRfl
namespace Go.Proofs.Ytaiccmbhdgecgaa
/- THE CELL 'sum', in the pinned program and in every row, IS THE sha256 OF THE DUMP (.gsa) THAT YtaiccmbhdgecgaaProg.lean LOADS. Nothing in Lean hashes anything: it is a label: what it is worth is what the hold of that sum in a sandbox is worth. -/
noncomputable def Try.pinned : Pinned := { name := "ytaiccmbhdgecgaa", sum := "7092484e2b5e01f00373b69ac4871c350faf172165dd343cfc35aac48d339c1f", checked := Try.checked }
namespace Rows
def none {H : Type} : Left H := { results := [], args := [] }

/-- 'larderlaw07.SchedThere': WHATEVER THE INPUT: true; the input reads as it did. -/
def schedThereSpec : ChangeSpec := { name := "schedThere", fn := fun _ => fun
  | [d1, d2] => { results := [.lit (.bool true)], args := [d1, d2] }
  | _ => none }
def schedThereRow : OpenClaim := { program := "ytaiccmbhdgecgaa", sum := "7092484e2b5e01f00373b69ac4871c350faf172165dd343cfc35aac48d339c1f", func := "larder/larderlaw07.SchedThere", spec := "schedThere", named := ["math/bits.divideError", "math/bits.overflowError"], apart := false }
def SchedThereSaid : Prop := schedThereRow.holds Try.pinned (OpenSpec.ofChange schedThereSpec)

/-- ITS FALSE NEIGHBOUR: 'it returns false'. Refute it at one input. -/
def schedThereWrong : ChangeSpec := { name := "schedThere", fn := fun _ => fun
  | [d1, d2] => { results := [.lit (.bool false)], args := [d1, d2] }
  | _ => none }
def SchedThereWrongFalsely : Prop := schedThereRow.holds Try.pinned (OpenSpec.ofChange schedThereWrong)

/-- 'larderlaw07.SchedRise': WHATEVER THE INPUT: true; the input reads as it did. -/
def schedRiseSpec : ChangeSpec := { name := "schedRise", fn := fun _ => fun
  | [d1, d2, d3, d4] => { results := [.lit (.bool true)], args := [d1, d2, d3, d4] }
  | _ => none }
def schedRiseRow : OpenClaim := { program := "ytaiccmbhdgecgaa", sum := "7092484e2b5e01f00373b69ac4871c350faf172165dd343cfc35aac48d339c1f", func := "larder/larderlaw07.SchedRise", spec := "schedRise", unfollowed := true, recurses := true, apart := false }
def SchedRiseSaid : Prop := schedRiseRow.holds Try.pinned (OpenSpec.ofChange schedRiseSpec)

/-- ITS FALSE NEIGHBOUR: 'it returns false'. Refute it at one input. -/
def schedRiseWrong : ChangeSpec := { name := "schedRise", fn := fun _ => fun
  | [d1, d2, d3, d4] => { results := [.lit (.bool false)], args := [d1, d2, d3, d4] }
  | _ => none }
def SchedRiseWrongFalsely : Prop := schedRiseRow.holds Try.pinned (OpenSpec.ofChange schedRiseWrong)

/-- 'larderlaw07.SchedSmall': WHATEVER THE INPUT: true; the input reads as it did. -/
def schedSmallSpec : ChangeSpec := { name := "schedSmall", fn := fun _ => fun
  | [d1, d2] => { results := [.lit (.bool true)], args := [d1, d2] }
  | _ => none }
def schedSmallRow : OpenClaim := { program := "ytaiccmbhdgecgaa", sum := "7092484e2b5e01f00373b69ac4871c350faf172165dd343cfc35aac48d339c1f", func := "larder/larderlaw07.SchedSmall", spec := "schedSmall", unfollowed := true, recurses := true, named := ["math/bits.divideError", "math/bits.overflowError"], apart := false }
def SchedSmallSaid : Prop := schedSmallRow.holds Try.pinned (OpenSpec.ofChange schedSmallSpec)

/-- ITS FALSE NEIGHBOUR: 'it returns false'. Refute it at one input. -/
def schedSmallWrong : ChangeSpec := { name := "schedSmall", fn := fun _ => fun
  | [d1, d2] => { results := [.lit (.bool false)], args := [d1, d2] }
  | _ => none }
def SchedSmallWrongFalsely : Prop := schedSmallRow.holds Try.pinned (OpenSpec.ofChange schedSmallWrong)

/-- 'larderlaw07.SchedRanks': WHATEVER THE INPUT: true; the input reads as it did. -/
def schedRanksSpec : ChangeSpec := { name := "schedRanks", fn := fun _ => fun
  | [d1, d2, d3] => { results := [.lit (.bool true)], args := [d1, d2, d3] }
  | _ => none }
def schedRanksRow : OpenClaim := { program := "ytaiccmbhdgecgaa", sum := "7092484e2b5e01f00373b69ac4871c350faf172165dd343cfc35aac48d339c1f", func := "larder/larderlaw07.SchedRanks", spec := "schedRanks", named := ["math/bits.divideError", "math/bits.overflowError"], apart := false }
def SchedRanksSaid : Prop := schedRanksRow.holds Try.pinned (OpenSpec.ofChange schedRanksSpec)

/-- ITS FALSE NEIGHBOUR: 'it returns false'. Refute it at one input. -/
def schedRanksWrong : ChangeSpec := { name := "schedRanks", fn := fun _ => fun
  | [d1, d2, d3] => { results := [.lit (.bool false)], args := [d1, d2, d3] }
  | _ => none }
def SchedRanksWrongFalsely : Prop := schedRanksRow.holds Try.pinned (OpenSpec.ofChange schedRanksWrong)

/-- 'larderlaw07.SchedOwn': WHATEVER THE INPUT: true; the input reads as it did. -/
def schedOwnSpec : ChangeSpec := { name := "schedOwn", fn := fun _ => fun
  | [d1, d2, d3, d4] => { results := [.lit (.bool true)], args := [d1, d2, d3, d4] }
  | _ => none }
def schedOwnRow : OpenClaim := { program := "ytaiccmbhdgecgaa", sum := "7092484e2b5e01f00373b69ac4871c350faf172165dd343cfc35aac48d339c1f", func := "larder/larderlaw07.SchedOwn", spec := "schedOwn", unfollowed := true, recurses := true, named := ["math/bits.divideError", "math/bits.overflowError"], apart := false }
def SchedOwnSaid : Prop := schedOwnRow.holds Try.pinned (OpenSpec.ofChange schedOwnSpec)

/-- ITS FALSE NEIGHBOUR: 'it returns false'. Refute it at one input. -/
def schedOwnWrong : ChangeSpec := { name := "schedOwn", fn := fun _ => fun
  | [d1, d2, d3, d4] => { results := [.lit (.bool false)], args := [d1, d2, d3, d4] }
  | _ => none }
def SchedOwnWrongFalsely : Prop := schedOwnRow.holds Try.pinned (OpenSpec.ofChange schedOwnWrong)

/-- 'larderlaw07.SchedMixes': WHATEVER THE INPUT: true; the input reads as it did. -/
def schedMixesSpec : ChangeSpec := { name := "schedMixes", fn := fun _ => fun
  | [d1, d2, d3] => { results := [.lit (.bool true)], args := [d1, d2, d3] }
  | _ => none }
def schedMixesRow : OpenClaim := { program := "ytaiccmbhdgecgaa", sum := "7092484e2b5e01f00373b69ac4871c350faf172165dd343cfc35aac48d339c1f", func := "larder/larderlaw07.SchedMixes", spec := "schedMixes", unfollowed := true, recurses := true, apart := false }
def SchedMixesSaid : Prop := schedMixesRow.holds Try.pinned (OpenSpec.ofChange schedMixesSpec)

/-- ITS FALSE NEIGHBOUR: 'it returns false'. Refute it at one input. -/
def schedMixesWrong : ChangeSpec := { name := "schedMixes", fn := fun _ => fun
  | [d1, d2, d3] => { results := [.lit (.bool false)], args := [d1, d2, d3] }
  | _ => none }
def SchedMixesWrongFalsely : Prop := schedMixesRow.holds Try.pinned (OpenSpec.ofChange schedMixesWrong)

/- THE SECOND FORM. 'bulk': how many values and letters a reading holds, each counted each time it is reached (what is shared counts as often as it is met; a slice's spare places count too). A statement '..UptoSaid' is the law's where the arguments, and the package variables that the reading takes, are together of bulk at most 1048576: NARROWER than '..Said'. Prove '..Said' where nothing that the law and all that it calls make is longer than what came in: it says more and counts as full. Else prove '..UptoSaid'. A law counts once. -/
mutual
def uptoBulk {H : Type} : DataW H → Nat
  | .lit (.string bytes) => bytes.length + 1
  | .lit _ => 1
  | .nil => 1
  | .ptr d => uptoBulk d + 1
  | .slice elems spare => uptoBulkAll elems + uptoBulkAll spare + 1
  | .agg parts => uptoBulkAll parts + 1
  | .iface _ d => uptoBulk d + 1
  | .map entries => uptoBulkEntries entries + 1
  | .held _ => 1
def uptoBulkAll {H : Type} : List (DataW H) → Nat
  | [] => 0
  | d :: r => uptoBulk d + uptoBulkAll r
def uptoBulkEntries {H : Type} : List (Lit × DataW H) → Nat
  | [] => 0
  | x :: r => uptoBulkEntry x + uptoBulkEntries r
def uptoBulkEntry {H : Type} : Lit × DataW H → Nat
  | (.string bytes, d) => bytes.length + uptoBulk d + 1
  | (_, d) => uptoBulk d + 1
 end
def uptoSmall : (H : Type) → List (DataW H) → Bool := fun _ ds => decide (uptoBulkAll ds ≤ 1048576)
def OpenSpec.upto (s : _root_.Go.ChangeSpec) : _root_.Go.OpenSpec := { _root_.Go.OpenSpec.ofChange s with cond := some uptoSmall }

/-- 'larderlaw07.SchedThere', WHERE WHAT IT READS IS OF BULK AT MOST 1048576: true; the input reads as it did. -/
def schedThereUptoRow : OpenClaim := { program := "ytaiccmbhdgecgaa", sum := "7092484e2b5e01f00373b69ac4871c350faf172165dd343cfc35aac48d339c1f", func := "larder/larderlaw07.SchedThere", spec := "schedThere", named := ["math/bits.divideError", "math/bits.overflowError"], apart := false, narrowed := true }
def SchedThereUptoSaid : Prop := schedThereUptoRow.holds Try.pinned (OpenSpec.upto schedThereSpec)

/-- 'larderlaw07.SchedRise', WHERE WHAT IT READS IS OF BULK AT MOST 1048576: true; the input reads as it did. -/
def schedRiseUptoRow : OpenClaim := { program := "ytaiccmbhdgecgaa", sum := "7092484e2b5e01f00373b69ac4871c350faf172165dd343cfc35aac48d339c1f", func := "larder/larderlaw07.SchedRise", spec := "schedRise", unfollowed := true, recurses := true, apart := false, narrowed := true }
def SchedRiseUptoSaid : Prop := schedRiseUptoRow.holds Try.pinned (OpenSpec.upto schedRiseSpec)

/-- 'larderlaw07.SchedSmall', WHERE WHAT IT READS IS OF BULK AT MOST 1048576: true; the input reads as it did. -/
def schedSmallUptoRow : OpenClaim := { program := "ytaiccmbhdgecgaa", sum := "7092484e2b5e01f00373b69ac4871c350faf172165dd343cfc35aac48d339c1f", func := "larder/larderlaw07.SchedSmall", spec := "schedSmall", unfollowed := true, recurses := true, named := ["math/bits.divideError", "math/bits.overflowError"], apart := false, narrowed := true }
def SchedSmallUptoSaid : Prop := schedSmallUptoRow.holds Try.pinned (OpenSpec.upto schedSmallSpec)

/-- 'larderlaw07.SchedRanks', WHERE WHAT IT READS IS OF BULK AT MOST 1048576: true; the input reads as it did. -/
def schedRanksUptoRow : OpenClaim := { program := "ytaiccmbhdgecgaa", sum := "7092484e2b5e01f00373b69ac4871c350faf172165dd343cfc35aac48d339c1f", func := "larder/larderlaw07.SchedRanks", spec := "schedRanks", named := ["math/bits.divideError", "math/bits.overflowError"], apart := false, narrowed := true }
def SchedRanksUptoSaid : Prop := schedRanksUptoRow.holds Try.pinned (OpenSpec.upto schedRanksSpec)

/-- 'larderlaw07.SchedOwn', WHERE WHAT IT READS IS OF BULK AT MOST 1048576: true; the input reads as it did. -/
def schedOwnUptoRow : OpenClaim := { program := "ytaiccmbhdgecgaa", sum := "7092484e2b5e01f00373b69ac4871c350faf172165dd343cfc35aac48d339c1f", func := "larder/larderlaw07.SchedOwn", spec := "schedOwn", unfollowed := true, recurses := true, named := ["math/bits.divideError", "math/bits.overflowError"], apart := false, narrowed := true }
def SchedOwnUptoSaid : Prop := schedOwnUptoRow.holds Try.pinned (OpenSpec.upto schedOwnSpec)

/-- 'larderlaw07.SchedMixes', WHERE WHAT IT READS IS OF BULK AT MOST 1048576: true; the input reads as it did. -/
def schedMixesUptoRow : OpenClaim := { program := "ytaiccmbhdgecgaa", sum := "7092484e2b5e01f00373b69ac4871c350faf172165dd343cfc35aac48d339c1f", func := "larder/larderlaw07.SchedMixes", spec := "schedMixes", unfollowed := true, recurses := true, apart := false, narrowed := true }
def SchedMixesUptoSaid : Prop := schedMixesUptoRow.holds Try.pinned (OpenSpec.upto schedMixesSpec)

end Rows
end Go.Proofs.Ytaiccmbhdgecgaa
