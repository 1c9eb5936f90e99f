/-
  NARROWER THAN 'FOR EVERY INPUT', by the rows' own cells (each row's printed sentence says how): GtinZeros: laid · GtinLevels: laid · GtinChecks: laid · GtinAmounts: laid · GtinDays: laid · GtinSpan: laid.
  DERIVED. THE GIVEN ROWS OF THIS SEAT. 6 by the template 'for every input the law returns true; each argument reads behind the call as it read before'; 0 by the template 'total and deterministic' (their statements: YteiacefbjmacbabDoorTotals.lean).
  GIVEN WITH THE SEED: the statements are not yours to turn. If you find one false, say at which input.
  Laid BY PROGRAM, IN A SANDBOX (cutbox-rows.mjs): the forced cells as the released guide's own fill.sh prints them over the translation 8a1b53351e528410… (all of the seat's roots in one cut). By AI agents, Wed Nov 11 2026. No macro, syntax, notation, axiom, sorry.
-/
import Derived.Test.YteiacefbjmacbabDoorChecked
import GoSem.PinnedTables
import GoSem.Claim
import GoSem.ClaimJoined
import GoSem.ClaimMapViews
import Derived.JoinedTies
import Derived.KernelRfl
namespace Go.Proofs.YteiacefbjmacbabDoor
/- THE CELL 'sum', in the pinned program and in every row, IS THE sha256 OF THE DUMP (.gsa) THAT YteiacefbjmacbabDoorProg.lean LOADS. Nothing in Lean hashes anything: it is a label: what it is worth is what the hold of that sum in a sandbox is worth. -/
noncomputable def Tryd.pinned : Pinned := { name := "yteiacefbjmacbabdoor", sum := "8a1b53351e52841083e0690c719f232adb2455bfa8abb6d0810ec84a06e415cc", checked := Tryd.checked }
namespace Rows
def none {H : Type} : Left H := { results := [], args := [] }

/- WHAT THE LISTED PACKAGE-LEVEL VARIABLES READ AS WHEN THE CALL BEGINS. Each datum BY PROGRAM (the guide's laid-datum.mjs) off the statement by which the dump's own 'gosem.cut.vars' lays the variable. In a bare row this is a premise. The card (YteiacefbjmacbabDoorCards.lean) ties it to the program's text. -/
def laid_unicode_utf8_acceptRanges {H : Type} : DataW H := .agg [.agg [.lit (.int .u8 128), .lit (.int .u8 191)], .agg [.lit (.int .u8 160), .lit (.int .u8 191)], .agg [.lit (.int .u8 128), .lit (.int .u8 159)], .agg [.lit (.int .u8 144), .lit (.int .u8 191)], .agg [.lit (.int .u8 128), .lit (.int .u8 143)], .agg [.lit (.int .u8 0), .lit (.int .u8 0)], .agg [.lit (.int .u8 0), .lit (.int .u8 0)], .agg [.lit (.int .u8 0), .lit (.int .u8 0)], .agg [.lit (.int .u8 0), .lit (.int .u8 0)], .agg [.lit (.int .u8 0), .lit (.int .u8 0)], .agg [.lit (.int .u8 0), .lit (.int .u8 0)], .agg [.lit (.int .u8 0), .lit (.int .u8 0)], .agg [.lit (.int .u8 0), .lit (.int .u8 0)], .agg [.lit (.int .u8 0), .lit (.int .u8 0)], .agg [.lit (.int .u8 0), .lit (.int .u8 0)], .agg [.lit (.int .u8 0), .lit (.int .u8 0)]]
/-- One of Go's own tables, pinned by name: the form's constant. -/
def laid_unicode_utf8_first : DataW Unit := Go.Pinned.utf8First
def laid_larder_gtin_knowns {H : Type} : DataW H := .agg [.agg [.lit (.string [48, 48]), .lit (.int .i64 0)], .agg [.lit (.string [48, 49]), .lit (.int .i64 1)], .agg [.lit (.string [48, 50]), .lit (.int .i64 1)], .agg [.lit (.string [49, 48]), .lit (.int .i64 9)], .agg [.lit (.string [50, 49]), .lit (.int .i64 9)], .agg [.lit (.string [49, 49]), .lit (.int .i64 3)], .agg [.lit (.string [49, 51]), .lit (.int .i64 3)], .agg [.lit (.string [49, 53]), .lit (.int .i64 3)], .agg [.lit (.string [49, 55]), .lit (.int .i64 3)], .agg [.lit (.string [50, 48]), .lit (.int .i64 4)], .agg [.lit (.string [51, 48]), .lit (.int .i64 5)], .agg [.lit (.string [51, 55]), .lit (.int .i64 5)], .agg [.lit (.string [51, 49, 48, 48]), .lit (.int .i64 6)], .agg [.lit (.string [51, 49, 48, 49]), .lit (.int .i64 6)], .agg [.lit (.string [51, 49, 48, 50]), .lit (.int .i64 6)], .agg [.lit (.string [51, 49, 48, 51]), .lit (.int .i64 6)], .agg [.lit (.string [51, 49, 48, 52]), .lit (.int .i64 6)], .agg [.lit (.string [51, 49, 48, 53]), .lit (.int .i64 6)], .agg [.lit (.string [51, 57, 50, 48]), .lit (.int .i64 7)], .agg [.lit (.string [51, 57, 50, 49]), .lit (.int .i64 7)], .agg [.lit (.string [51, 57, 50, 50]), .lit (.int .i64 7)], .agg [.lit (.string [51, 57, 50, 51]), .lit (.int .i64 7)], .agg [.lit (.string [52, 48, 48]), .lit (.int .i64 11)], .agg [.lit (.string [52, 49, 48]), .lit (.int .i64 2)], .agg [.lit (.string [52, 49, 49]), .lit (.int .i64 2)], .agg [.lit (.string [52, 49, 52]), .lit (.int .i64 2)], .agg [.lit (.string [52, 50, 48]), .lit (.int .i64 9)], .agg [.lit (.string [56, 48, 48, 53]), .lit (.int .i64 8)], .agg [.lit (.string [56, 48, 50, 48]), .lit (.int .i64 10)], .agg [.lit (.string [57, 48]), .lit (.int .i64 11)], .agg [.lit (.string [57, 49]), .lit (.int .i64 12)], .agg [.lit (.string [57, 50]), .lit (.int .i64 12)], .agg [.lit (.string [57, 51]), .lit (.int .i64 12)], .agg [.lit (.string [57, 52]), .lit (.int .i64 12)], .agg [.lit (.string [57, 53]), .lit (.int .i64 12)], .agg [.lit (.string [57, 54]), .lit (.int .i64 12)], .agg [.lit (.string [57, 55]), .lit (.int .i64 12)], .agg [.lit (.string [57, 56]), .lit (.int .i64 12)], .agg [.lit (.string [57, 57]), .lit (.int .i64 12)]]

/-- 'larderlaw02.GtinZeros': WHATEVER THE INPUT: true; the input reads as it did. -/
def gtinZerosSpec : ChangeSpec := { name := "gtinZeros", fn := fun _ => fun
  | [d1, d2] => { results := [.lit (.bool true)], args := [d1, d2] }
  | _ => none }
def gtinZerosRow : OpenClaim := { program := "yteiacefbjmacbabdoor", sum := "8a1b53351e52841083e0690c719f232adb2455bfa8abb6d0810ec84a06e415cc", func := "larder/larderlaw02.GtinZeros", spec := "gtinZeros", inPlace := ["internal/abi.NoEscape", "internal/bytealg.IndexByteString", "internal/bytealg.IndexString"], named := ["unicode/utf8.first", "unicode/utf8.acceptRanges", "internal/bytealg.MaxLen"], apart := false, laid := [("unicode/utf8.acceptRanges", laid_unicode_utf8_acceptRanges), ("unicode/utf8.first", laid_unicode_utf8_first)] }
def GtinZerosSaid : Prop := gtinZerosRow.holds Tryd.pinned (OpenSpec.ofChange gtinZerosSpec)

/-- ITS FALSE NEIGHBOUR: 'it returns false'. Refute it at one input. -/
def gtinZerosWrong : ChangeSpec := { name := "gtinZeros", fn := fun _ => fun
  | [d1, d2] => { results := [.lit (.bool false)], args := [d1, d2] }
  | _ => none }
def GtinZerosWrongFalsely : Prop := gtinZerosRow.holds Tryd.pinned (OpenSpec.ofChange gtinZerosWrong)

/-- 'larderlaw02.GtinLevels': WHATEVER THE INPUT: true; the input reads as it did. -/
def gtinLevelsSpec : ChangeSpec := { name := "gtinLevels", fn := fun _ => fun
  | [d1, d2, d3] => { results := [.lit (.bool true)], args := [d1, d2, d3] }
  | _ => none }
def gtinLevelsRow : OpenClaim := { program := "yteiacefbjmacbabdoor", sum := "8a1b53351e52841083e0690c719f232adb2455bfa8abb6d0810ec84a06e415cc", func := "larder/larderlaw02.GtinLevels", spec := "gtinLevels", inPlace := ["internal/abi.NoEscape", "internal/bytealg.IndexByteString", "internal/bytealg.IndexString"], named := ["unicode/utf8.first", "unicode/utf8.acceptRanges", "internal/bytealg.MaxLen"], apart := false, laid := [("unicode/utf8.acceptRanges", laid_unicode_utf8_acceptRanges), ("unicode/utf8.first", laid_unicode_utf8_first)] }
def GtinLevelsSaid : Prop := gtinLevelsRow.holds Tryd.pinned (OpenSpec.ofChange gtinLevelsSpec)

/-- ITS FALSE NEIGHBOUR: 'it returns false'. Refute it at one input. -/
def gtinLevelsWrong : ChangeSpec := { name := "gtinLevels", fn := fun _ => fun
  | [d1, d2, d3] => { results := [.lit (.bool false)], args := [d1, d2, d3] }
  | _ => none }
def GtinLevelsWrongFalsely : Prop := gtinLevelsRow.holds Tryd.pinned (OpenSpec.ofChange gtinLevelsWrong)

/-- 'larderlaw02.GtinChecks': WHATEVER THE INPUT: true; the input reads as it did. -/
def gtinChecksSpec : ChangeSpec := { name := "gtinChecks", fn := fun _ => fun
  | [d] => { results := [.lit (.bool true)], args := [d] }
  | _ => none }
def gtinChecksRow : OpenClaim := { program := "yteiacefbjmacbabdoor", sum := "8a1b53351e52841083e0690c719f232adb2455bfa8abb6d0810ec84a06e415cc", func := "larder/larderlaw02.GtinChecks", spec := "gtinChecks", inPlace := ["internal/abi.NoEscape", "internal/bytealg.IndexByteString", "internal/bytealg.IndexString"], named := ["unicode/utf8.first", "unicode/utf8.acceptRanges", "internal/bytealg.MaxLen"], apart := false, laid := [("unicode/utf8.acceptRanges", laid_unicode_utf8_acceptRanges), ("unicode/utf8.first", laid_unicode_utf8_first)] }
def GtinChecksSaid : Prop := gtinChecksRow.holds Tryd.pinned (OpenSpec.ofChange gtinChecksSpec)

/-- ITS FALSE NEIGHBOUR: 'it returns false'. Refute it at one input. -/
def gtinChecksWrong : ChangeSpec := { name := "gtinChecks", fn := fun _ => fun
  | [d] => { results := [.lit (.bool false)], args := [d] }
  | _ => none }
def GtinChecksWrongFalsely : Prop := gtinChecksRow.holds Tryd.pinned (OpenSpec.ofChange gtinChecksWrong)

/-- 'larderlaw02.GtinAmounts': WHATEVER THE INPUT: true; the input reads as it did. -/
def gtinAmountsSpec : ChangeSpec := { name := "gtinAmounts", fn := fun _ => fun
  | [d] => { results := [.lit (.bool true)], args := [d] }
  | _ => none }
def gtinAmountsRow : OpenClaim := { program := "yteiacefbjmacbabdoor", sum := "8a1b53351e52841083e0690c719f232adb2455bfa8abb6d0810ec84a06e415cc", func := "larder/larderlaw02.GtinAmounts", spec := "gtinAmounts", inPlace := ["internal/bytealg.IndexByteString"], unfollowed := true, recurses := true, named := ["larder/gtin.knowns"], apart := false, laid := [("larder/gtin.knowns", laid_larder_gtin_knowns)] }
def GtinAmountsSaid : Prop := gtinAmountsRow.holds Tryd.pinned (OpenSpec.ofChange gtinAmountsSpec)

/-- ITS FALSE NEIGHBOUR: 'it returns false'. Refute it at one input. -/
def gtinAmountsWrong : ChangeSpec := { name := "gtinAmounts", fn := fun _ => fun
  | [d] => { results := [.lit (.bool false)], args := [d] }
  | _ => none }
def GtinAmountsWrongFalsely : Prop := gtinAmountsRow.holds Tryd.pinned (OpenSpec.ofChange gtinAmountsWrong)

/-- 'larderlaw02.GtinDays': WHATEVER THE INPUT: true; the input reads as it did. -/
def gtinDaysSpec : ChangeSpec := { name := "gtinDays", fn := fun _ => fun
  | [d1, d2] => { results := [.lit (.bool true)], args := [d1, d2] }
  | _ => none }
def gtinDaysRow : OpenClaim := { program := "yteiacefbjmacbabdoor", sum := "8a1b53351e52841083e0690c719f232adb2455bfa8abb6d0810ec84a06e415cc", func := "larder/larderlaw02.GtinDays", spec := "gtinDays", inPlace := ["internal/bytealg.IndexByteString"], unfollowed := true, recurses := true, named := ["larder/gtin.knowns"], apart := false, laid := [("larder/gtin.knowns", laid_larder_gtin_knowns)] }
def GtinDaysSaid : Prop := gtinDaysRow.holds Tryd.pinned (OpenSpec.ofChange gtinDaysSpec)

/-- ITS FALSE NEIGHBOUR: 'it returns false'. Refute it at one input. -/
def gtinDaysWrong : ChangeSpec := { name := "gtinDays", fn := fun _ => fun
  | [d1, d2] => { results := [.lit (.bool false)], args := [d1, d2] }
  | _ => none }
def GtinDaysWrongFalsely : Prop := gtinDaysRow.holds Tryd.pinned (OpenSpec.ofChange gtinDaysWrong)

/-- 'larderlaw02.GtinSpan': WHATEVER THE INPUT: true; the input reads as it did. -/
def gtinSpanSpec : ChangeSpec := { name := "gtinSpan", fn := fun _ => fun
  | [d1, d2, d3, d4] => { results := [.lit (.bool true)], args := [d1, d2, d3, d4] }
  | _ => none }
def gtinSpanRow : OpenClaim := { program := "yteiacefbjmacbabdoor", sum := "8a1b53351e52841083e0690c719f232adb2455bfa8abb6d0810ec84a06e415cc", func := "larder/larderlaw02.GtinSpan", spec := "gtinSpan", inPlace := ["internal/bytealg.IndexByteString"], unfollowed := true, recurses := true, named := ["larder/gtin.knowns"], apart := false, laid := [("larder/gtin.knowns", laid_larder_gtin_knowns)] }
def GtinSpanSaid : Prop := gtinSpanRow.holds Tryd.pinned (OpenSpec.ofChange gtinSpanSpec)

/-- ITS FALSE NEIGHBOUR: 'it returns false'. Refute it at one input. -/
def gtinSpanWrong : ChangeSpec := { name := "gtinSpan", fn := fun _ => fun
  | [d1, d2, d3, d4] => { results := [.lit (.bool false)], args := [d1, d2, d3, d4] }
  | _ => none }
def GtinSpanWrongFalsely : Prop := gtinSpanRow.holds Tryd.pinned (OpenSpec.ofChange gtinSpanWrong)

/- THE SECOND FORM. 'bulk': how many values and letters a reading holds, each counted each time it is reached (what is shared counts as often as it is met; a slice's spare places count too). A statement '..UptoSaid' is the law's where the arguments, and the package variables that the reading takes, are together of bulk at most 1048576: NARROWER than '..Said'. Prove '..Said' where nothing that the law and all that it calls make is longer than what came in: it says more and counts as full. Else prove '..UptoSaid'. A law counts once. -/
mutual
def uptoBulk {H : Type} : DataW H → Nat
  | .lit (.string bytes) => bytes.length + 1
  | .lit _ => 1
  | .nil => 1
  | .ptr d => uptoBulk d + 1
  | .slice elems spare => uptoBulkAll elems + uptoBulkAll spare + 1
  | .agg parts => uptoBulkAll parts + 1
  | .iface _ d => uptoBulk d + 1
  | .map entries => uptoBulkEntries entries + 1
  | .held _ => 1
def uptoBulkAll {H : Type} : List (DataW H) → Nat
  | [] => 0
  | d :: r => uptoBulk d + uptoBulkAll r
def uptoBulkEntries {H : Type} : List (Lit × DataW H) → Nat
  | [] => 0
  | x :: r => uptoBulkEntry x + uptoBulkEntries r
def uptoBulkEntry {H : Type} : Lit × DataW H → Nat
  | (.string bytes, d) => bytes.length + uptoBulk d + 1
  | (_, d) => uptoBulk d + 1
 end
def uptoSmall : (H : Type) → List (DataW H) → Bool := fun _ ds => decide (uptoBulkAll ds ≤ 1048576)
def OpenSpec.upto (s : _root_.Go.ChangeSpec) : _root_.Go.OpenSpec := { _root_.Go.OpenSpec.ofChange s with cond := some uptoSmall }

/-- 'larderlaw02.GtinZeros', WHERE WHAT IT READS IS OF BULK AT MOST 1048576: true; the input reads as it did. -/
def gtinZerosUptoRow : OpenClaim := { program := "yteiacefbjmacbabdoor", sum := "8a1b53351e52841083e0690c719f232adb2455bfa8abb6d0810ec84a06e415cc", func := "larder/larderlaw02.GtinZeros", spec := "gtinZeros", inPlace := ["internal/abi.NoEscape", "internal/bytealg.IndexByteString", "internal/bytealg.IndexString"], named := ["unicode/utf8.first", "unicode/utf8.acceptRanges", "internal/bytealg.MaxLen"], apart := false, laid := [("unicode/utf8.acceptRanges", laid_unicode_utf8_acceptRanges), ("unicode/utf8.first", laid_unicode_utf8_first)], narrowed := true }
def GtinZerosUptoSaid : Prop := gtinZerosUptoRow.holds Tryd.pinned (OpenSpec.upto gtinZerosSpec)

/-- 'larderlaw02.GtinLevels', WHERE WHAT IT READS IS OF BULK AT MOST 1048576: true; the input reads as it did. -/
def gtinLevelsUptoRow : OpenClaim := { program := "yteiacefbjmacbabdoor", sum := "8a1b53351e52841083e0690c719f232adb2455bfa8abb6d0810ec84a06e415cc", func := "larder/larderlaw02.GtinLevels", spec := "gtinLevels", inPlace := ["internal/abi.NoEscape", "internal/bytealg.IndexByteString", "internal/bytealg.IndexString"], named := ["unicode/utf8.first", "unicode/utf8.acceptRanges", "internal/bytealg.MaxLen"], apart := false, laid := [("unicode/utf8.acceptRanges", laid_unicode_utf8_acceptRanges), ("unicode/utf8.first", laid_unicode_utf8_first)], narrowed := true }
def GtinLevelsUptoSaid : Prop := gtinLevelsUptoRow.holds Tryd.pinned (OpenSpec.upto gtinLevelsSpec)

/-- 'larderlaw02.GtinChecks', WHERE WHAT IT READS IS OF BULK AT MOST 1048576: true; the input reads as it did. -/
def gtinChecksUptoRow : OpenClaim := { program := "yteiacefbjmacbabdoor", sum := "8a1b53351e52841083e0690c719f232adb2455bfa8abb6d0810ec84a06e415cc", func := "larder/larderlaw02.GtinChecks", spec := "gtinChecks", inPlace := ["internal/abi.NoEscape", "internal/bytealg.IndexByteString", "internal/bytealg.IndexString"], named := ["unicode/utf8.first", "unicode/utf8.acceptRanges", "internal/bytealg.MaxLen"], apart := false, laid := [("unicode/utf8.acceptRanges", laid_unicode_utf8_acceptRanges), ("unicode/utf8.first", laid_unicode_utf8_first)], narrowed := true }
def GtinChecksUptoSaid : Prop := gtinChecksUptoRow.holds Tryd.pinned (OpenSpec.upto gtinChecksSpec)

/-- 'larderlaw02.GtinAmounts', WHERE WHAT IT READS IS OF BULK AT MOST 1048576: true; the input reads as it did. -/
def gtinAmountsUptoRow : OpenClaim := { program := "yteiacefbjmacbabdoor", sum := "8a1b53351e52841083e0690c719f232adb2455bfa8abb6d0810ec84a06e415cc", func := "larder/larderlaw02.GtinAmounts", spec := "gtinAmounts", inPlace := ["internal/bytealg.IndexByteString"], unfollowed := true, recurses := true, named := ["larder/gtin.knowns"], apart := false, laid := [("larder/gtin.knowns", laid_larder_gtin_knowns)], narrowed := true }
def GtinAmountsUptoSaid : Prop := gtinAmountsUptoRow.holds Tryd.pinned (OpenSpec.upto gtinAmountsSpec)

/-- 'larderlaw02.GtinDays', WHERE WHAT IT READS IS OF BULK AT MOST 1048576: true; the input reads as it did. -/
def gtinDaysUptoRow : OpenClaim := { program := "yteiacefbjmacbabdoor", sum := "8a1b53351e52841083e0690c719f232adb2455bfa8abb6d0810ec84a06e415cc", func := "larder/larderlaw02.GtinDays", spec := "gtinDays", inPlace := ["internal/bytealg.IndexByteString"], unfollowed := true, recurses := true, named := ["larder/gtin.knowns"], apart := false, laid := [("larder/gtin.knowns", laid_larder_gtin_knowns)], narrowed := true }
def GtinDaysUptoSaid : Prop := gtinDaysUptoRow.holds Tryd.pinned (OpenSpec.upto gtinDaysSpec)

/-- 'larderlaw02.GtinSpan', WHERE WHAT IT READS IS OF BULK AT MOST 1048576: true; the input reads as it did. -/
def gtinSpanUptoRow : OpenClaim := { program := "yteiacefbjmacbabdoor", sum := "8a1b53351e52841083e0690c719f232adb2455bfa8abb6d0810ec84a06e415cc", func := "larder/larderlaw02.GtinSpan", spec := "gtinSpan", inPlace := ["internal/bytealg.IndexByteString"], unfollowed := true, recurses := true, named := ["larder/gtin.knowns"], apart := false, laid := [("larder/gtin.knowns", laid_larder_gtin_knowns)], narrowed := true }
def GtinSpanUptoSaid : Prop := gtinSpanUptoRow.holds Tryd.pinned (OpenSpec.upto gtinSpanSpec)

end Rows
end Go.Proofs.YteiacefbjmacbabDoor
