/-
  NARROWER THAN 'FOR EVERY INPUT', by the rows' own cells (each row's printed sentence says how): GtinLevels: laid · GtinDays: laid · GtinSpan: laid.
  DERIVED. THE GIVEN ROWS OF THIS SEAT. 3 by the template 'for every input the law returns true; each argument reads behind the call as it read before'; 0 by the template 'total and deterministic' (their statements: YtcenlpfanikdnaaDoorTotals.lean).
  GIVEN WITH THE SEED: the statements are not yours to turn. If you find one false, say at which input.
  Laid BY PROGRAM, IN A SANDBOX (cutbox-rows.mjs): the forced cells as the released guide's own fill.sh prints them over the translation 4643aba060ab65fa… (all of the seat's roots in one cut). By AI agents, Wed Nov 11 2026. No macro, syntax, notation, axiom, sorry.
-/
import Derived.Test.YtcenlpfanikdnaaDoorChecked
import GoSem.PinnedTables
import GoSem.Claim
import GoSem.ClaimJoined
import GoSem.ClaimMapViews
import Derived.JoinedTies
import Derived.KernelRfl
namespace Go.Proofs.YtcenlpfanikdnaaDoor
/- THE CELL 'sum', in the pinned program and in every row, IS THE sha256 OF THE DUMP (.gsa) THAT YtcenlpfanikdnaaDoorProg.lean LOADS. Nothing in Lean hashes anything: it is a label: what it is worth is what the hold of that sum in a sandbox is worth. -/
noncomputable def Tryd.pinned : Pinned := { name := "ytcenlpfanikdnaadoor", sum := "4643aba060ab65fa35cce0d51686fb06870797a7f38f3dbf6b0eb0e735eb6116", checked := Tryd.checked }
namespace Rows
def none {H : Type} : Left H := { results := [], args := [] }

/- WHAT THE LISTED PACKAGE-LEVEL VARIABLES READ AS WHEN THE CALL BEGINS. Each datum BY PROGRAM (the guide's laid-datum.mjs) off the statement by which the dump's own 'gosem.cut.vars' lays the variable. In a bare row this is a premise. The card (YtcenlpfanikdnaaDoorCards.lean) ties it to the program's text. -/
def laid_unicode_utf8_acceptRanges {H : Type} : DataW H := .agg [.agg [.lit (.int .u8 128), .lit (.int .u8 191)], .agg [.lit (.int .u8 160), .lit (.int .u8 191)], .agg [.lit (.int .u8 128), .lit (.int .u8 159)], .agg [.lit (.int .u8 144), .lit (.int .u8 191)], .agg [.lit (.int .u8 128), .lit (.int .u8 143)], .agg [.lit (.int .u8 0), .lit (.int .u8 0)], .agg [.lit (.int .u8 0), .lit (.int .u8 0)], .agg [.lit (.int .u8 0), .lit (.int .u8 0)], .agg [.lit (.int .u8 0), .lit (.int .u8 0)], .agg [.lit (.int .u8 0), .lit (.int .u8 0)], .agg [.lit (.int .u8 0), .lit (.int .u8 0)], .agg [.lit (.int .u8 0), .lit (.int .u8 0)], .agg [.lit (.int .u8 0), .lit (.int .u8 0)], .agg [.lit (.int .u8 0), .lit (.int .u8 0)], .agg [.lit (.int .u8 0), .lit (.int .u8 0)], .agg [.lit (.int .u8 0), .lit (.int .u8 0)]]
/-- One of Go's own tables, pinned by name: the form's constant. -/
def laid_unicode_utf8_first : DataW Unit := Go.Pinned.utf8First
def laid_larder_gtin_knowns {H : Type} : DataW H := .agg [.agg [.lit (.string [48, 48]), .lit (.int .i64 0)], .agg [.lit (.string [48, 49]), .lit (.int .i64 1)], .agg [.lit (.string [48, 50]), .lit (.int .i64 1)], .agg [.lit (.string [49, 48]), .lit (.int .i64 9)], .agg [.lit (.string [50, 49]), .lit (.int .i64 9)], .agg [.lit (.string [49, 49]), .lit (.int .i64 3)], .agg [.lit (.string [49, 51]), .lit (.int .i64 3)], .agg [.lit (.string [49, 53]), .lit (.int .i64 3)], .agg [.lit (.string [49, 55]), .lit (.int .i64 3)], .agg [.lit (.string [50, 48]), .lit (.int .i64 4)], .agg [.lit (.string [51, 48]), .lit (.int .i64 5)], .agg [.lit (.string [51, 55]), .lit (.int .i64 5)], .agg [.lit (.string [51, 49, 48, 48]), .lit (.int .i64 6)], .agg [.lit (.string [51, 49, 48, 49]), .lit (.int .i64 6)], .agg [.lit (.string [51, 49, 48, 50]), .lit (.int .i64 6)], .agg [.lit (.string [51, 49, 48, 51]), .lit (.int .i64 6)], .agg [.lit (.string [51, 49, 48, 52]), .lit (.int .i64 6)], .agg [.lit (.string [51, 49, 48, 53]), .lit (.int .i64 6)], .agg [.lit (.string [51, 57, 50, 48]), .lit (.int .i64 7)], .agg [.lit (.string [51, 57, 50, 49]), .lit (.int .i64 7)], .agg [.lit (.string [51, 57, 50, 50]), .lit (.int .i64 7)], .agg [.lit (.string [51, 57, 50, 51]), .lit (.int .i64 7)], .agg [.lit (.string [52, 48, 48]), .lit (.int .i64 11)], .agg [.lit (.string [52, 49, 48]), .lit (.int .i64 2)], .agg [.lit (.string [52, 49, 49]), .lit (.int .i64 2)], .agg [.lit (.string [52, 49, 52]), .lit (.int .i64 2)], .agg [.lit (.string [52, 50, 48]), .lit (.int .i64 9)], .agg [.lit (.string [56, 48, 48, 53]), .lit (.int .i64 8)], .agg [.lit (.string [56, 48, 50, 48]), .lit (.int .i64 10)], .agg [.lit (.string [57, 48]), .lit (.int .i64 11)], .agg [.lit (.string [57, 49]), .lit (.int .i64 12)], .agg [.lit (.string [57, 50]), .lit (.int .i64 12)], .agg [.lit (.string [57, 51]), .lit (.int .i64 12)], .agg [.lit (.string [57, 52]), .lit (.int .i64 12)], .agg [.lit (.string [57, 53]), .lit (.int .i64 12)], .agg [.lit (.string [57, 54]), .lit (.int .i64 12)], .agg [.lit (.string [57, 55]), .lit (.int .i64 12)], .agg [.lit (.string [57, 56]), .lit (.int .i64 12)], .agg [.lit (.string [57, 57]), .lit (.int .i64 12)]]

/-- 'larderlaw02.GtinLevels': WHATEVER THE INPUT: true; the input reads as it did. -/
def gtinLevelsSpec : ChangeSpec := { name := "gtinLevels", fn := fun _ => fun
  | [d1, d2, d3] => { results := [.lit (.bool true)], args := [d1, d2, d3] }
  | _ => none }
def gtinLevelsRow : OpenClaim := { program := "ytcenlpfanikdnaadoor", sum := "4643aba060ab65fa35cce0d51686fb06870797a7f38f3dbf6b0eb0e735eb6116", func := "larder/larderlaw02.GtinLevels", spec := "gtinLevels", inPlace := ["internal/abi.NoEscape", "internal/bytealg.IndexByteString", "internal/bytealg.IndexString"], named := ["unicode/utf8.first", "unicode/utf8.acceptRanges", "internal/bytealg.MaxLen"], apart := false, laid := [("unicode/utf8.acceptRanges", laid_unicode_utf8_acceptRanges), ("unicode/utf8.first", laid_unicode_utf8_first)] }
def GtinLevelsSaid : Prop := gtinLevelsRow.holds Tryd.pinned (OpenSpec.ofChange gtinLevelsSpec)

/-- ITS FALSE NEIGHBOUR: 'it returns false'. Refute it at one input. -/
def gtinLevelsWrong : ChangeSpec := { name := "gtinLevels", fn := fun _ => fun
  | [d1, d2, d3] => { results := [.lit (.bool false)], args := [d1, d2, d3] }
  | _ => none }
def GtinLevelsWrongFalsely : Prop := gtinLevelsRow.holds Tryd.pinned (OpenSpec.ofChange gtinLevelsWrong)

/-- 'larderlaw02.GtinDays': WHATEVER THE INPUT: true; the input reads as it did. -/
def gtinDaysSpec : ChangeSpec := { name := "gtinDays", fn := fun _ => fun
  | [d1, d2] => { results := [.lit (.bool true)], args := [d1, d2] }
  | _ => none }
def gtinDaysRow : OpenClaim := { program := "ytcenlpfanikdnaadoor", sum := "4643aba060ab65fa35cce0d51686fb06870797a7f38f3dbf6b0eb0e735eb6116", func := "larder/larderlaw02.GtinDays", spec := "gtinDays", inPlace := ["internal/bytealg.IndexByteString"], unfollowed := true, recurses := true, named := ["larder/gtin.knowns"], apart := false, laid := [("larder/gtin.knowns", laid_larder_gtin_knowns)] }
def GtinDaysSaid : Prop := gtinDaysRow.holds Tryd.pinned (OpenSpec.ofChange gtinDaysSpec)

/-- ITS FALSE NEIGHBOUR: 'it returns false'. Refute it at one input. -/
def gtinDaysWrong : ChangeSpec := { name := "gtinDays", fn := fun _ => fun
  | [d1, d2] => { results := [.lit (.bool false)], args := [d1, d2] }
  | _ => none }
def GtinDaysWrongFalsely : Prop := gtinDaysRow.holds Tryd.pinned (OpenSpec.ofChange gtinDaysWrong)

/-- 'larderlaw02.GtinSpan': WHATEVER THE INPUT: true; the input reads as it did. -/
def gtinSpanSpec : ChangeSpec := { name := "gtinSpan", fn := fun _ => fun
  | [d1, d2, d3, d4] => { results := [.lit (.bool true)], args := [d1, d2, d3, d4] }
  | _ => none }
def gtinSpanRow : OpenClaim := { program := "ytcenlpfanikdnaadoor", sum := "4643aba060ab65fa35cce0d51686fb06870797a7f38f3dbf6b0eb0e735eb6116", func := "larder/larderlaw02.GtinSpan", spec := "gtinSpan", inPlace := ["internal/bytealg.IndexByteString"], unfollowed := true, recurses := true, named := ["larder/gtin.knowns"], apart := false, laid := [("larder/gtin.knowns", laid_larder_gtin_knowns)] }
def GtinSpanSaid : Prop := gtinSpanRow.holds Tryd.pinned (OpenSpec.ofChange gtinSpanSpec)

/-- ITS FALSE NEIGHBOUR: 'it returns false'. Refute it at one input. -/
def gtinSpanWrong : ChangeSpec := { name := "gtinSpan", fn := fun _ => fun
  | [d1, d2, d3, d4] => { results := [.lit (.bool false)], args := [d1, d2, d3, d4] }
  | _ => none }
def GtinSpanWrongFalsely : Prop := gtinSpanRow.holds Tryd.pinned (OpenSpec.ofChange gtinSpanWrong)

/- THE SECOND FORM. 'bulk': how many values and letters a reading holds, each counted each time it is reached (what is shared counts as often as it is met; a slice's spare places count too). A statement '..UptoSaid' is the law's where the arguments, and the package variables that the reading takes, are together of bulk at most 1048576: NARROWER than '..Said'. Prove '..Said' where nothing that the law and all that it calls make is longer than what came in: it says more and counts as full. Else prove '..UptoSaid'. A law counts once. -/
mutual
def uptoBulk {H : Type} : DataW H → Nat
  | .lit (.string bytes) => bytes.length + 1
  | .lit _ => 1
  | .nil => 1
  | .ptr d => uptoBulk d + 1
  | .slice elems spare => uptoBulkAll elems + uptoBulkAll spare + 1
  | .agg parts => uptoBulkAll parts + 1
  | .iface _ d => uptoBulk d + 1
  | .map entries => uptoBulkEntries entries + 1
  | .held _ => 1
def uptoBulkAll {H : Type} : List (DataW H) → Nat
  | [] => 0
  | d :: r => uptoBulk d + uptoBulkAll r
def uptoBulkEntries {H : Type} : List (Lit × DataW H) → Nat
  | [] => 0
  | x :: r => uptoBulkEntry x + uptoBulkEntries r
def uptoBulkEntry {H : Type} : Lit × DataW H → Nat
  | (.string bytes, d) => bytes.length + uptoBulk d + 1
  | (_, d) => uptoBulk d + 1
 end
def uptoSmall : (H : Type) → List (DataW H) → Bool := fun _ ds => decide (uptoBulkAll ds ≤ 1048576)
def OpenSpec.upto (s : _root_.Go.ChangeSpec) : _root_.Go.OpenSpec := { _root_.Go.OpenSpec.ofChange s with cond := some uptoSmall }

/-- 'larderlaw02.GtinLevels', WHERE WHAT IT READS IS OF BULK AT MOST 1048576: true; the input reads as it did. -/
def gtinLevelsUptoRow : OpenClaim := { program := "ytcenlpfanikdnaadoor", sum := "4643aba060ab65fa35cce0d51686fb06870797a7f38f3dbf6b0eb0e735eb6116", func := "larder/larderlaw02.GtinLevels", spec := "gtinLevels", inPlace := ["internal/abi.NoEscape", "internal/bytealg.IndexByteString", "internal/bytealg.IndexString"], named := ["unicode/utf8.first", "unicode/utf8.acceptRanges", "internal/bytealg.MaxLen"], apart := false, laid := [("unicode/utf8.acceptRanges", laid_unicode_utf8_acceptRanges), ("unicode/utf8.first", laid_unicode_utf8_first)], narrowed := true }
def GtinLevelsUptoSaid : Prop := gtinLevelsUptoRow.holds Tryd.pinned (OpenSpec.upto gtinLevelsSpec)

/-- 'larderlaw02.GtinDays', WHERE WHAT IT READS IS OF BULK AT MOST 1048576: true; the input reads as it did. -/
def gtinDaysUptoRow : OpenClaim := { program := "ytcenlpfanikdnaadoor", sum := "4643aba060ab65fa35cce0d51686fb06870797a7f38f3dbf6b0eb0e735eb6116", func := "larder/larderlaw02.GtinDays", spec := "gtinDays", inPlace := ["internal/bytealg.IndexByteString"], unfollowed := true, recurses := true, named := ["larder/gtin.knowns"], apart := false, laid := [("larder/gtin.knowns", laid_larder_gtin_knowns)], narrowed := true }
def GtinDaysUptoSaid : Prop := gtinDaysUptoRow.holds Tryd.pinned (OpenSpec.upto gtinDaysSpec)

/-- 'larderlaw02.GtinSpan', WHERE WHAT IT READS IS OF BULK AT MOST 1048576: true; the input reads as it did. -/
def gtinSpanUptoRow : OpenClaim := { program := "ytcenlpfanikdnaadoor", sum := "4643aba060ab65fa35cce0d51686fb06870797a7f38f3dbf6b0eb0e735eb6116", func := "larder/larderlaw02.GtinSpan", spec := "gtinSpan", inPlace := ["internal/bytealg.IndexByteString"], unfollowed := true, recurses := true, named := ["larder/gtin.knowns"], apart := false, laid := [("larder/gtin.knowns", laid_larder_gtin_knowns)], narrowed := true }
def GtinSpanUptoSaid : Prop := gtinSpanUptoRow.holds Tryd.pinned (OpenSpec.upto gtinSpanSpec)

end Rows
end Go.Proofs.YtcenlpfanikdnaaDoor
