/-
  No cell of these rows narrows 'for every input' (looked for: loops, veiled, ifaces, maps, wideKeys, modest, calm, conditions, laid).
  DERIVED. THE GIVEN ROWS OF THIS SEAT. 4 by the template 'for every input the law returns true; each argument reads behind the call as it read before'; 0 by the template 'total and deterministic' (their statements: YtjgfmikkbkoimaaTotals.lean).
  GIVEN WITH THE SEED: the statements are not yours to turn. If you find one false, say at which input.
  Laid BY PROGRAM, IN A SANDBOX (cutbox-rows.mjs): the forced cells as the released guide's own fill.sh prints them over the translation 32ddb4ef4d9e7ed0… (all of the seat's roots in one cut). By AI agents, Wed Nov 11 2026. No macro, syntax, notation, axiom, sorry.
-/
import Derived.Test.YtjgfmikkbkoimaaChecked
import GoSem.Claim
import GoSem.ClaimJoined
import GoSem.ClaimMapViews
import Derived.JoinedTies
import Derived.KernelRfl
namespace Go.Proofs.Ytjgfmikkbkoimaa
/- THE CELL 'sum', in the pinned program and in every row, IS THE sha256 OF THE DUMP (.gsa) THAT YtjgfmikkbkoimaaProg.lean LOADS. Nothing in Lean hashes anything: it is a label: what it is worth is what the hold of that sum in a sandbox is worth. -/
noncomputable def Try.pinned : Pinned := { name := "ytjgfmikkbkoimaa", sum := "32ddb4ef4d9e7ed0b634365eb769c81fbbed6be85fdbfc0dc35ee18f36ee2646", checked := Try.checked }
namespace Rows
def none {H : Type} : Left H := { results := [], args := [] }

/-- 'larderlaw07.SchedAlls': WHATEVER THE INPUT: true; the input reads as it did. -/
def schedAllsSpec : ChangeSpec := { name := "schedAlls", fn := fun _ => fun
  | [d1, d2, d3] => { results := [.lit (.bool true)], args := [d1, d2, d3] }
  | _ => none }
def schedAllsRow : OpenClaim := { program := "ytjgfmikkbkoimaa", sum := "32ddb4ef4d9e7ed0b634365eb769c81fbbed6be85fdbfc0dc35ee18f36ee2646", func := "larder/larderlaw07.SchedAlls", spec := "schedAlls", unfollowed := true, recurses := true, apart := false }
def SchedAllsSaid : Prop := schedAllsRow.holds Try.pinned (OpenSpec.ofChange schedAllsSpec)

/-- ITS FALSE NEIGHBOUR: 'it returns false'. Refute it at one input. -/
def schedAllsWrong : ChangeSpec := { name := "schedAlls", fn := fun _ => fun
  | [d1, d2, d3] => { results := [.lit (.bool false)], args := [d1, d2, d3] }
  | _ => none }
def SchedAllsWrongFalsely : Prop := schedAllsRow.holds Try.pinned (OpenSpec.ofChange schedAllsWrong)

/-- 'larderlaw07.SchedOwn': WHATEVER THE INPUT: true; the input reads as it did. -/
def schedOwnSpec : ChangeSpec := { name := "schedOwn", fn := fun _ => fun
  | [d1, d2, d3, d4] => { results := [.lit (.bool true)], args := [d1, d2, d3, d4] }
  | _ => none }
def schedOwnRow : OpenClaim := { program := "ytjgfmikkbkoimaa", sum := "32ddb4ef4d9e7ed0b634365eb769c81fbbed6be85fdbfc0dc35ee18f36ee2646", func := "larder/larderlaw07.SchedOwn", spec := "schedOwn", unfollowed := true, recurses := true, named := ["math/bits.divideError", "math/bits.overflowError"], apart := false }
def SchedOwnSaid : Prop := schedOwnRow.holds Try.pinned (OpenSpec.ofChange schedOwnSpec)

/-- ITS FALSE NEIGHBOUR: 'it returns false'. Refute it at one input. -/
def schedOwnWrong : ChangeSpec := { name := "schedOwn", fn := fun _ => fun
  | [d1, d2, d3, d4] => { results := [.lit (.bool false)], args := [d1, d2, d3, d4] }
  | _ => none }
def SchedOwnWrongFalsely : Prop := schedOwnRow.holds Try.pinned (OpenSpec.ofChange schedOwnWrong)

/-- 'larderlaw07.SchedMixes': WHATEVER THE INPUT: true; the input reads as it did. -/
def schedMixesSpec : ChangeSpec := { name := "schedMixes", fn := fun _ => fun
  | [d1, d2, d3] => { results := [.lit (.bool true)], args := [d1, d2, d3] }
  | _ => none }
def schedMixesRow : OpenClaim := { program := "ytjgfmikkbkoimaa", sum := "32ddb4ef4d9e7ed0b634365eb769c81fbbed6be85fdbfc0dc35ee18f36ee2646", func := "larder/larderlaw07.SchedMixes", spec := "schedMixes", unfollowed := true, recurses := true, apart := false }
def SchedMixesSaid : Prop := schedMixesRow.holds Try.pinned (OpenSpec.ofChange schedMixesSpec)

/-- ITS FALSE NEIGHBOUR: 'it returns false'. Refute it at one input. -/
def schedMixesWrong : ChangeSpec := { name := "schedMixes", fn := fun _ => fun
  | [d1, d2, d3] => { results := [.lit (.bool false)], args := [d1, d2, d3] }
  | _ => none }
def SchedMixesWrongFalsely : Prop := schedMixesRow.holds Try.pinned (OpenSpec.ofChange schedMixesWrong)

/-- 'larderlaw07.SchedBoards': WHATEVER THE INPUT: true; the input reads as it did. -/
def schedBoardsSpec : ChangeSpec := { name := "schedBoards", fn := fun _ => fun
  | [d1, d2] => { results := [.lit (.bool true)], args := [d1, d2] }
  | _ => none }
def schedBoardsRow : OpenClaim := { program := "ytjgfmikkbkoimaa", sum := "32ddb4ef4d9e7ed0b634365eb769c81fbbed6be85fdbfc0dc35ee18f36ee2646", func := "larder/larderlaw07.SchedBoards", spec := "schedBoards", apart := false }
def SchedBoardsSaid : Prop := schedBoardsRow.holds Try.pinned (OpenSpec.ofChange schedBoardsSpec)

/-- ITS FALSE NEIGHBOUR: 'it returns false'. Refute it at one input. -/
def schedBoardsWrong : ChangeSpec := { name := "schedBoards", fn := fun _ => fun
  | [d1, d2] => { results := [.lit (.bool false)], args := [d1, d2] }
  | _ => none }
def SchedBoardsWrongFalsely : Prop := schedBoardsRow.holds Try.pinned (OpenSpec.ofChange schedBoardsWrong)

/- THE SECOND FORM. 'bulk': how many values and letters a reading holds, each counted each time it is reached (what is shared counts as often as it is met; a slice's spare places count too). A statement '..UptoSaid' is the law's where the arguments, and the package variables that the reading takes, are together of bulk at most 1048576: NARROWER than '..Said'. Prove '..Said' where nothing that the law and all that it calls make is longer than what came in: it says more and counts as full. Else prove '..UptoSaid'. A law counts once. -/
mutual
def uptoBulk {H : Type} : DataW H → Nat
  | .lit (.string bytes) => bytes.length + 1
  | .lit _ => 1
  | .nil => 1
  | .ptr d => uptoBulk d + 1
  | .slice elems spare => uptoBulkAll elems + uptoBulkAll spare + 1
  | .agg parts => uptoBulkAll parts + 1
  | .iface _ d => uptoBulk d + 1
  | .map entries => uptoBulkEntries entries + 1
  | .held _ => 1
def uptoBulkAll {H : Type} : List (DataW H) → Nat
  | [] => 0
  | d :: r => uptoBulk d + uptoBulkAll r
def uptoBulkEntries {H : Type} : List (Lit × DataW H) → Nat
  | [] => 0
  | x :: r => uptoBulkEntry x + uptoBulkEntries r
def uptoBulkEntry {H : Type} : Lit × DataW H → Nat
  | (.string bytes, d) => bytes.length + uptoBulk d + 1
  | (_, d) => uptoBulk d + 1
 end
def uptoSmall : (H : Type) → List (DataW H) → Bool := fun _ ds => decide (uptoBulkAll ds ≤ 1048576)
def OpenSpec.upto (s : _root_.Go.ChangeSpec) : _root_.Go.OpenSpec := { _root_.Go.OpenSpec.ofChange s with cond := some uptoSmall }

/-- 'larderlaw07.SchedAlls', WHERE WHAT IT READS IS OF BULK AT MOST 1048576: true; the input reads as it did. -/
def schedAllsUptoRow : OpenClaim := { program := "ytjgfmikkbkoimaa", sum := "32ddb4ef4d9e7ed0b634365eb769c81fbbed6be85fdbfc0dc35ee18f36ee2646", func := "larder/larderlaw07.SchedAlls", spec := "schedAlls", unfollowed := true, recurses := true, apart := false, narrowed := true }
def SchedAllsUptoSaid : Prop := schedAllsUptoRow.holds Try.pinned (OpenSpec.upto schedAllsSpec)

/-- 'larderlaw07.SchedOwn', WHERE WHAT IT READS IS OF BULK AT MOST 1048576: true; the input reads as it did. -/
def schedOwnUptoRow : OpenClaim := { program := "ytjgfmikkbkoimaa", sum := "32ddb4ef4d9e7ed0b634365eb769c81fbbed6be85fdbfc0dc35ee18f36ee2646", func := "larder/larderlaw07.SchedOwn", spec := "schedOwn", unfollowed := true, recurses := true, named := ["math/bits.divideError", "math/bits.overflowError"], apart := false, narrowed := true }
def SchedOwnUptoSaid : Prop := schedOwnUptoRow.holds Try.pinned (OpenSpec.upto schedOwnSpec)

/-- 'larderlaw07.SchedMixes', WHERE WHAT IT READS IS OF BULK AT MOST 1048576: true; the input reads as it did. -/
def schedMixesUptoRow : OpenClaim := { program := "ytjgfmikkbkoimaa", sum := "32ddb4ef4d9e7ed0b634365eb769c81fbbed6be85fdbfc0dc35ee18f36ee2646", func := "larder/larderlaw07.SchedMixes", spec := "schedMixes", unfollowed := true, recurses := true, apart := false, narrowed := true }
def SchedMixesUptoSaid : Prop := schedMixesUptoRow.holds Try.pinned (OpenSpec.upto schedMixesSpec)

/-- 'larderlaw07.SchedBoards', WHERE WHAT IT READS IS OF BULK AT MOST 1048576: true; the input reads as it did. -/
def schedBoardsUptoRow : OpenClaim := { program := "ytjgfmikkbkoimaa", sum := "32ddb4ef4d9e7ed0b634365eb769c81fbbed6be85fdbfc0dc35ee18f36ee2646", func := "larder/larderlaw07.SchedBoards", spec := "schedBoards", apart := false, narrowed := true }
def SchedBoardsUptoSaid : Prop := schedBoardsUptoRow.holds Try.pinned (OpenSpec.upto schedBoardsSpec)

end Rows
end Go.Proofs.Ytjgfmikkbkoimaa
