/-
  NARROWER THAN 'FOR EVERY INPUT', by the rows' own cells (each row's printed sentence says how): CalSpoken: laid · CalSpans: laid · CalWalk: laid · CalEach: laid · CalRound: laid · CalReads: laid.
  DERIVED. THE GIVEN ROWS OF THIS SEAT. 6 by the template 'for every input the law returns true; each argument reads behind the call as it read before'; 0 by the template 'total and deterministic' (their statements: YtflnlmpfniommaaDoorTotals.lean).
  GIVEN WITH THE SEED: the statements are not yours to turn. If you find one false, say at which input.
  Laid BY PROGRAM, IN A SANDBOX (cutbox-rows.mjs): the forced cells as the released guide's own fill.sh prints them over the translation c24abe86805236df… (all of the seat's roots in one cut). By AI agents, Wed Nov 11 2026. No macro, syntax, notation, axiom, sorry.
-/
import Derived.Test.YtflnlmpfniommaaDoorChecked
import GoSem.Claim
import GoSem.ClaimJoined
import GoSem.ClaimMapViews
import Derived.JoinedTies
import Derived.KernelRfl
namespace Go.Proofs.YtflnlmpfniommaaDoor
/- THE CELL 'sum', in the pinned program and in every row, IS THE sha256 OF THE DUMP (.gsa) THAT YtflnlmpfniommaaDoorProg.lean LOADS. Nothing in Lean hashes anything: it is a label: what it is worth is what the hold of that sum in a sandbox is worth. -/
noncomputable def Tryd.pinned : Pinned := { name := "ytflnlmpfniommaadoor", sum := "c24abe86805236df959af8e8b510bff30fc2782f2b8525de32d945540e3be81b", checked := Tryd.checked }
namespace Rows
def none {H : Type} : Left H := { results := [], args := [] }

/- WHAT THE LISTED PACKAGE-LEVEL VARIABLES READ AS WHEN THE CALL BEGINS. Each datum BY PROGRAM (the guide's laid-datum.mjs) off the statement by which the dump's own 'gosem.cut.vars' lays the variable. In a bare row this is a premise. The card (YtflnlmpfniommaaDoorCards.lean) ties it to the program's text. -/
def laid_math_bits_deBruijn32tab {H : Type} : DataW H := .agg [.lit (.int .u8 0), .lit (.int .u8 1), .lit (.int .u8 28), .lit (.int .u8 2), .lit (.int .u8 29), .lit (.int .u8 14), .lit (.int .u8 24), .lit (.int .u8 3), .lit (.int .u8 30), .lit (.int .u8 22), .lit (.int .u8 20), .lit (.int .u8 15), .lit (.int .u8 25), .lit (.int .u8 17), .lit (.int .u8 4), .lit (.int .u8 8), .lit (.int .u8 31), .lit (.int .u8 27), .lit (.int .u8 13), .lit (.int .u8 23), .lit (.int .u8 21), .lit (.int .u8 19), .lit (.int .u8 16), .lit (.int .u8 7), .lit (.int .u8 26), .lit (.int .u8 12), .lit (.int .u8 18), .lit (.int .u8 6), .lit (.int .u8 11), .lit (.int .u8 5), .lit (.int .u8 10), .lit (.int .u8 9)]
def laid_math_bits_deBruijn64tab {H : Type} : DataW H := .agg [.lit (.int .u8 0), .lit (.int .u8 1), .lit (.int .u8 56), .lit (.int .u8 2), .lit (.int .u8 57), .lit (.int .u8 49), .lit (.int .u8 28), .lit (.int .u8 3), .lit (.int .u8 61), .lit (.int .u8 58), .lit (.int .u8 42), .lit (.int .u8 50), .lit (.int .u8 38), .lit (.int .u8 29), .lit (.int .u8 17), .lit (.int .u8 4), .lit (.int .u8 62), .lit (.int .u8 47), .lit (.int .u8 59), .lit (.int .u8 36), .lit (.int .u8 45), .lit (.int .u8 43), .lit (.int .u8 51), .lit (.int .u8 22), .lit (.int .u8 53), .lit (.int .u8 39), .lit (.int .u8 33), .lit (.int .u8 30), .lit (.int .u8 24), .lit (.int .u8 18), .lit (.int .u8 12), .lit (.int .u8 5), .lit (.int .u8 63), .lit (.int .u8 55), .lit (.int .u8 48), .lit (.int .u8 27), .lit (.int .u8 60), .lit (.int .u8 41), .lit (.int .u8 37), .lit (.int .u8 16), .lit (.int .u8 46), .lit (.int .u8 35), .lit (.int .u8 44), .lit (.int .u8 21), .lit (.int .u8 52), .lit (.int .u8 32), .lit (.int .u8 23), .lit (.int .u8 11), .lit (.int .u8 54), .lit (.int .u8 26), .lit (.int .u8 40), .lit (.int .u8 15), .lit (.int .u8 34), .lit (.int .u8 20), .lit (.int .u8 31), .lit (.int .u8 10), .lit (.int .u8 25), .lit (.int .u8 14), .lit (.int .u8 19), .lit (.int .u8 9), .lit (.int .u8 13), .lit (.int .u8 8), .lit (.int .u8 7), .lit (.int .u8 6)]
def laid_internal_strconv_uint64pow10 {H : Type} : DataW H := .agg [.lit (.int .u64 1), .lit (.int .u64 10), .lit (.int .u64 100), .lit (.int .u64 1000), .lit (.int .u64 10000), .lit (.int .u64 100000), .lit (.int .u64 1000000), .lit (.int .u64 10000000), .lit (.int .u64 100000000), .lit (.int .u64 1000000000), .lit (.int .u64 10000000000), .lit (.int .u64 100000000000), .lit (.int .u64 1000000000000), .lit (.int .u64 10000000000000), .lit (.int .u64 100000000000000), .lit (.int .u64 1000000000000000), .lit (.int .u64 10000000000000000), .lit (.int .u64 100000000000000000), .lit (.int .u64 1000000000000000000), .lit (.int .u64 10000000000000000000)]
def laid_strconv_ErrRange {H : Type} : DataW H := .iface "*errors.errorString" (.ptr (.agg [.lit (.string [118, 97, 108, 117, 101, 32, 111, 117, 116, 32, 111, 102, 32, 114, 97, 110, 103, 101])]))
def laid_strconv_ErrSyntax {H : Type} : DataW H := .iface "*errors.errorString" (.ptr (.agg [.lit (.string [105, 110, 118, 97, 108, 105, 100, 32, 115, 121, 110, 116, 97, 120])]))
def laid_larder_cal_ahead {H : Type} : DataW H := .agg [.lit (.int .i64 0), .lit (.int .i64 31), .lit (.int .i64 59), .lit (.int .i64 90), .lit (.int .i64 120), .lit (.int .i64 151), .lit (.int .i64 181), .lit (.int .i64 212), .lit (.int .i64 243), .lit (.int .i64 273), .lit (.int .i64 304), .lit (.int .i64 334), .lit (.int .i64 365)]

/-- 'larderlaw03.CalSpoken': WHATEVER THE INPUT: true; the input reads as it did. -/
def calSpokenSpec : ChangeSpec := { name := "calSpoken", fn := fun _ => fun
  | [d1, d2] => { results := [.lit (.bool true)], args := [d1, d2] }
  | _ => none }
def calSpokenRow : OpenClaim := { program := "ytflnlmpfniommaadoor", sum := "c24abe86805236df959af8e8b510bff30fc2782f2b8525de32d945540e3be81b", func := "larder/larderlaw03.CalSpoken", spec := "calSpoken", inPlace := ["internal/bytealg.IndexByteString", "internal/bytealg.IndexString"], named := ["internal/strconv.uint64pow10", "math/bits.deBruijn32tab", "math/bits.deBruijn64tab", "strconv.ErrSyntax", "strconv.ErrRange", "internal/bytealg.MaxLen"], apart := false, laid := [("math/bits.deBruijn32tab", laid_math_bits_deBruijn32tab), ("math/bits.deBruijn64tab", laid_math_bits_deBruijn64tab), ("internal/strconv.uint64pow10", laid_internal_strconv_uint64pow10), ("strconv.ErrRange", laid_strconv_ErrRange), ("strconv.ErrSyntax", laid_strconv_ErrSyntax)] }
def CalSpokenSaid : Prop := calSpokenRow.holds Tryd.pinned (OpenSpec.ofChange calSpokenSpec)

/-- ITS FALSE NEIGHBOUR: 'it returns false'. Refute it at one input. -/
def calSpokenWrong : ChangeSpec := { name := "calSpoken", fn := fun _ => fun
  | [d1, d2] => { results := [.lit (.bool false)], args := [d1, d2] }
  | _ => none }
def CalSpokenWrongFalsely : Prop := calSpokenRow.holds Tryd.pinned (OpenSpec.ofChange calSpokenWrong)

/-- 'larderlaw03.CalSpans': WHATEVER THE INPUT: true; the input reads as it did. -/
def calSpansSpec : ChangeSpec := { name := "calSpans", fn := fun _ => fun
  | [d] => { results := [.lit (.bool true)], args := [d] }
  | _ => none }
def calSpansRow : OpenClaim := { program := "ytflnlmpfniommaadoor", sum := "c24abe86805236df959af8e8b510bff30fc2782f2b8525de32d945540e3be81b", func := "larder/larderlaw03.CalSpans", spec := "calSpans", inPlace := ["internal/bytealg.IndexByteString", "internal/bytealg.IndexString"], named := ["strconv.ErrSyntax", "strconv.ErrRange", "internal/strconv.uint64pow10", "math/bits.deBruijn32tab", "math/bits.deBruijn64tab", "internal/bytealg.MaxLen"], apart := false, laid := [("math/bits.deBruijn32tab", laid_math_bits_deBruijn32tab), ("math/bits.deBruijn64tab", laid_math_bits_deBruijn64tab), ("internal/strconv.uint64pow10", laid_internal_strconv_uint64pow10), ("strconv.ErrRange", laid_strconv_ErrRange), ("strconv.ErrSyntax", laid_strconv_ErrSyntax)] }
def CalSpansSaid : Prop := calSpansRow.holds Tryd.pinned (OpenSpec.ofChange calSpansSpec)

/-- ITS FALSE NEIGHBOUR: 'it returns false'. Refute it at one input. -/
def calSpansWrong : ChangeSpec := { name := "calSpans", fn := fun _ => fun
  | [d] => { results := [.lit (.bool false)], args := [d] }
  | _ => none }
def CalSpansWrongFalsely : Prop := calSpansRow.holds Tryd.pinned (OpenSpec.ofChange calSpansWrong)

/-- 'larderlaw03.CalWalk': WHATEVER THE INPUT: true; the input reads as it did. -/
def calWalkSpec : ChangeSpec := { name := "calWalk", fn := fun _ => fun
  | [d1, d2, d3] => { results := [.lit (.bool true)], args := [d1, d2, d3] }
  | _ => none }
def calWalkRow : OpenClaim := { program := "ytflnlmpfniommaadoor", sum := "c24abe86805236df959af8e8b510bff30fc2782f2b8525de32d945540e3be81b", func := "larder/larderlaw03.CalWalk", spec := "calWalk", unfollowed := true, recurses := true, named := ["larder/cal.ahead"], apart := false, laid := [("larder/cal.ahead", laid_larder_cal_ahead)] }
def CalWalkSaid : Prop := calWalkRow.holds Tryd.pinned (OpenSpec.ofChange calWalkSpec)

/-- ITS FALSE NEIGHBOUR: 'it returns false'. Refute it at one input. -/
def calWalkWrong : ChangeSpec := { name := "calWalk", fn := fun _ => fun
  | [d1, d2, d3] => { results := [.lit (.bool false)], args := [d1, d2, d3] }
  | _ => none }
def CalWalkWrongFalsely : Prop := calWalkRow.holds Tryd.pinned (OpenSpec.ofChange calWalkWrong)

/-- 'larderlaw03.CalEach': WHATEVER THE INPUT: true; the input reads as it did. -/
def calEachSpec : ChangeSpec := { name := "calEach", fn := fun _ => fun
  | [d1, d2, d3, d4] => { results := [.lit (.bool true)], args := [d1, d2, d3, d4] }
  | _ => none }
def calEachRow : OpenClaim := { program := "ytflnlmpfniommaadoor", sum := "c24abe86805236df959af8e8b510bff30fc2782f2b8525de32d945540e3be81b", func := "larder/larderlaw03.CalEach", spec := "calEach", unfollowed := true, recurses := true, named := ["larder/cal.ahead"], apart := false, laid := [("larder/cal.ahead", laid_larder_cal_ahead)] }
def CalEachSaid : Prop := calEachRow.holds Tryd.pinned (OpenSpec.ofChange calEachSpec)

/-- ITS FALSE NEIGHBOUR: 'it returns false'. Refute it at one input. -/
def calEachWrong : ChangeSpec := { name := "calEach", fn := fun _ => fun
  | [d1, d2, d3, d4] => { results := [.lit (.bool false)], args := [d1, d2, d3, d4] }
  | _ => none }
def CalEachWrongFalsely : Prop := calEachRow.holds Tryd.pinned (OpenSpec.ofChange calEachWrong)

/-- 'larderlaw03.CalRound': WHATEVER THE INPUT: true; the input reads as it did. -/
def calRoundSpec : ChangeSpec := { name := "calRound", fn := fun _ => fun
  | [d1, d2] => { results := [.lit (.bool true)], args := [d1, d2] }
  | _ => none }
def calRoundRow : OpenClaim := { program := "ytflnlmpfniommaadoor", sum := "c24abe86805236df959af8e8b510bff30fc2782f2b8525de32d945540e3be81b", func := "larder/larderlaw03.CalRound", spec := "calRound", inPlace := ["internal/abi.NoEscape", "internal/bytealg.MakeNoZero"], unfollowed := true, recurses := true, named := ["larder/cal.ahead", "internal/strconv.uint64pow10", "math/bits.deBruijn32tab", "math/bits.deBruijn64tab", "strconv.ErrSyntax", "strconv.ErrRange"], apart := false, laid := [("math/bits.deBruijn32tab", laid_math_bits_deBruijn32tab), ("math/bits.deBruijn64tab", laid_math_bits_deBruijn64tab), ("internal/strconv.uint64pow10", laid_internal_strconv_uint64pow10), ("strconv.ErrRange", laid_strconv_ErrRange), ("strconv.ErrSyntax", laid_strconv_ErrSyntax), ("larder/cal.ahead", laid_larder_cal_ahead)] }
def CalRoundSaid : Prop := calRoundRow.holds Tryd.pinned (OpenSpec.ofChange calRoundSpec)

/-- ITS FALSE NEIGHBOUR: 'it returns false'. Refute it at one input. -/
def calRoundWrong : ChangeSpec := { name := "calRound", fn := fun _ => fun
  | [d1, d2] => { results := [.lit (.bool false)], args := [d1, d2] }
  | _ => none }
def CalRoundWrongFalsely : Prop := calRoundRow.holds Tryd.pinned (OpenSpec.ofChange calRoundWrong)

/-- 'larderlaw03.CalReads': WHATEVER THE INPUT: true; the input reads as it did. -/
def calReadsSpec : ChangeSpec := { name := "calReads", fn := fun _ => fun
  | [d] => { results := [.lit (.bool true)], args := [d] }
  | _ => none }
def calReadsRow : OpenClaim := { program := "ytflnlmpfniommaadoor", sum := "c24abe86805236df959af8e8b510bff30fc2782f2b8525de32d945540e3be81b", func := "larder/larderlaw03.CalReads", spec := "calReads", unfollowed := true, recurses := true, named := ["larder/cal.ahead", "strconv.ErrSyntax", "strconv.ErrRange", "internal/strconv.uint64pow10", "math/bits.deBruijn32tab", "math/bits.deBruijn64tab"], apart := false, laid := [("math/bits.deBruijn32tab", laid_math_bits_deBruijn32tab), ("math/bits.deBruijn64tab", laid_math_bits_deBruijn64tab), ("internal/strconv.uint64pow10", laid_internal_strconv_uint64pow10), ("strconv.ErrRange", laid_strconv_ErrRange), ("strconv.ErrSyntax", laid_strconv_ErrSyntax), ("larder/cal.ahead", laid_larder_cal_ahead)] }
def CalReadsSaid : Prop := calReadsRow.holds Tryd.pinned (OpenSpec.ofChange calReadsSpec)

/-- ITS FALSE NEIGHBOUR: 'it returns false'. Refute it at one input. -/
def calReadsWrong : ChangeSpec := { name := "calReads", fn := fun _ => fun
  | [d] => { results := [.lit (.bool false)], args := [d] }
  | _ => none }
def CalReadsWrongFalsely : Prop := calReadsRow.holds Tryd.pinned (OpenSpec.ofChange calReadsWrong)

/- THE SECOND FORM. 'bulk': how many values and letters a reading holds, each counted each time it is reached (what is shared counts as often as it is met; a slice's spare places count too). A statement '..UptoSaid' is the law's where the arguments, and the package variables that the reading takes, are together of bulk at most 1048576: NARROWER than '..Said'. Prove '..Said' where nothing that the law and all that it calls make is longer than what came in: it says more and counts as full. Else prove '..UptoSaid'. A law counts once. -/
mutual
def uptoBulk {H : Type} : DataW H → Nat
  | .lit (.string bytes) => bytes.length + 1
  | .lit _ => 1
  | .nil => 1
  | .ptr d => uptoBulk d + 1
  | .slice elems spare => uptoBulkAll elems + uptoBulkAll spare + 1
  | .agg parts => uptoBulkAll parts + 1
  | .iface _ d => uptoBulk d + 1
  | .map entries => uptoBulkEntries entries + 1
  | .held _ => 1
def uptoBulkAll {H : Type} : List (DataW H) → Nat
  | [] => 0
  | d :: r => uptoBulk d + uptoBulkAll r
def uptoBulkEntries {H : Type} : List (Lit × DataW H) → Nat
  | [] => 0
  | x :: r => uptoBulkEntry x + uptoBulkEntries r
def uptoBulkEntry {H : Type} : Lit × DataW H → Nat
  | (.string bytes, d) => bytes.length + uptoBulk d + 1
  | (_, d) => uptoBulk d + 1
 end
def uptoSmall : (H : Type) → List (DataW H) → Bool := fun _ ds => decide (uptoBulkAll ds ≤ 1048576)
def OpenSpec.upto (s : _root_.Go.ChangeSpec) : _root_.Go.OpenSpec := { _root_.Go.OpenSpec.ofChange s with cond := some uptoSmall }

/-- 'larderlaw03.CalSpoken', WHERE WHAT IT READS IS OF BULK AT MOST 1048576: true; the input reads as it did. -/
def calSpokenUptoRow : OpenClaim := { program := "ytflnlmpfniommaadoor", sum := "c24abe86805236df959af8e8b510bff30fc2782f2b8525de32d945540e3be81b", func := "larder/larderlaw03.CalSpoken", spec := "calSpoken", inPlace := ["internal/bytealg.IndexByteString", "internal/bytealg.IndexString"], named := ["internal/strconv.uint64pow10", "math/bits.deBruijn32tab", "math/bits.deBruijn64tab", "strconv.ErrSyntax", "strconv.ErrRange", "internal/bytealg.MaxLen"], apart := false, laid := [("math/bits.deBruijn32tab", laid_math_bits_deBruijn32tab), ("math/bits.deBruijn64tab", laid_math_bits_deBruijn64tab), ("internal/strconv.uint64pow10", laid_internal_strconv_uint64pow10), ("strconv.ErrRange", laid_strconv_ErrRange), ("strconv.ErrSyntax", laid_strconv_ErrSyntax)], narrowed := true }
def CalSpokenUptoSaid : Prop := calSpokenUptoRow.holds Tryd.pinned (OpenSpec.upto calSpokenSpec)

/-- 'larderlaw03.CalSpans', WHERE WHAT IT READS IS OF BULK AT MOST 1048576: true; the input reads as it did. -/
def calSpansUptoRow : OpenClaim := { program := "ytflnlmpfniommaadoor", sum := "c24abe86805236df959af8e8b510bff30fc2782f2b8525de32d945540e3be81b", func := "larder/larderlaw03.CalSpans", spec := "calSpans", inPlace := ["internal/bytealg.IndexByteString", "internal/bytealg.IndexString"], named := ["strconv.ErrSyntax", "strconv.ErrRange", "internal/strconv.uint64pow10", "math/bits.deBruijn32tab", "math/bits.deBruijn64tab", "internal/bytealg.MaxLen"], apart := false, laid := [("math/bits.deBruijn32tab", laid_math_bits_deBruijn32tab), ("math/bits.deBruijn64tab", laid_math_bits_deBruijn64tab), ("internal/strconv.uint64pow10", laid_internal_strconv_uint64pow10), ("strconv.ErrRange", laid_strconv_ErrRange), ("strconv.ErrSyntax", laid_strconv_ErrSyntax)], narrowed := true }
def CalSpansUptoSaid : Prop := calSpansUptoRow.holds Tryd.pinned (OpenSpec.upto calSpansSpec)

/-- 'larderlaw03.CalWalk', WHERE WHAT IT READS IS OF BULK AT MOST 1048576: true; the input reads as it did. -/
def calWalkUptoRow : OpenClaim := { program := "ytflnlmpfniommaadoor", sum := "c24abe86805236df959af8e8b510bff30fc2782f2b8525de32d945540e3be81b", func := "larder/larderlaw03.CalWalk", spec := "calWalk", unfollowed := true, recurses := true, named := ["larder/cal.ahead"], apart := false, laid := [("larder/cal.ahead", laid_larder_cal_ahead)], narrowed := true }
def CalWalkUptoSaid : Prop := calWalkUptoRow.holds Tryd.pinned (OpenSpec.upto calWalkSpec)

/-- 'larderlaw03.CalEach', WHERE WHAT IT READS IS OF BULK AT MOST 1048576: true; the input reads as it did. -/
def calEachUptoRow : OpenClaim := { program := "ytflnlmpfniommaadoor", sum := "c24abe86805236df959af8e8b510bff30fc2782f2b8525de32d945540e3be81b", func := "larder/larderlaw03.CalEach", spec := "calEach", unfollowed := true, recurses := true, named := ["larder/cal.ahead"], apart := false, laid := [("larder/cal.ahead", laid_larder_cal_ahead)], narrowed := true }
def CalEachUptoSaid : Prop := calEachUptoRow.holds Tryd.pinned (OpenSpec.upto calEachSpec)

/-- 'larderlaw03.CalRound', WHERE WHAT IT READS IS OF BULK AT MOST 1048576: true; the input reads as it did. -/
def calRoundUptoRow : OpenClaim := { program := "ytflnlmpfniommaadoor", sum := "c24abe86805236df959af8e8b510bff30fc2782f2b8525de32d945540e3be81b", func := "larder/larderlaw03.CalRound", spec := "calRound", inPlace := ["internal/abi.NoEscape", "internal/bytealg.MakeNoZero"], unfollowed := true, recurses := true, named := ["larder/cal.ahead", "internal/strconv.uint64pow10", "math/bits.deBruijn32tab", "math/bits.deBruijn64tab", "strconv.ErrSyntax", "strconv.ErrRange"], apart := false, laid := [("math/bits.deBruijn32tab", laid_math_bits_deBruijn32tab), ("math/bits.deBruijn64tab", laid_math_bits_deBruijn64tab), ("internal/strconv.uint64pow10", laid_internal_strconv_uint64pow10), ("strconv.ErrRange", laid_strconv_ErrRange), ("strconv.ErrSyntax", laid_strconv_ErrSyntax), ("larder/cal.ahead", laid_larder_cal_ahead)], narrowed := true }
def CalRoundUptoSaid : Prop := calRoundUptoRow.holds Tryd.pinned (OpenSpec.upto calRoundSpec)

/-- 'larderlaw03.CalReads', WHERE WHAT IT READS IS OF BULK AT MOST 1048576: true; the input reads as it did. -/
def calReadsUptoRow : OpenClaim := { program := "ytflnlmpfniommaadoor", sum := "c24abe86805236df959af8e8b510bff30fc2782f2b8525de32d945540e3be81b", func := "larder/larderlaw03.CalReads", spec := "calReads", unfollowed := true, recurses := true, named := ["larder/cal.ahead", "strconv.ErrSyntax", "strconv.ErrRange", "internal/strconv.uint64pow10", "math/bits.deBruijn32tab", "math/bits.deBruijn64tab"], apart := false, laid := [("math/bits.deBruijn32tab", laid_math_bits_deBruijn32tab), ("math/bits.deBruijn64tab", laid_math_bits_deBruijn64tab), ("internal/strconv.uint64pow10", laid_internal_strconv_uint64pow10), ("strconv.ErrRange", laid_strconv_ErrRange), ("strconv.ErrSyntax", laid_strconv_ErrSyntax), ("larder/cal.ahead", laid_larder_cal_ahead)], narrowed := true }
def CalReadsUptoSaid : Prop := calReadsUptoRow.holds Tryd.pinned (OpenSpec.upto calReadsSpec)

end Rows
end Go.Proofs.YtflnlmpfniommaaDoor
