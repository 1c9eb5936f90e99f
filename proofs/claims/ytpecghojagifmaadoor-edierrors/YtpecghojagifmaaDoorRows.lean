/-
  NARROWER THAN 'FOR EVERY INPUT', by the rows' own cells (each row's printed sentence says how): EdiErrors: laid.
  DERIVED. THE GIVEN ROWS OF THIS SEAT. 1 by the template 'for every input the law returns true; each argument reads behind the call as it read before'; 0 by the template 'total and deterministic' (their statements: YtpecghojagifmaaDoorTotals.lean).
  GIVEN WITH THE SEED: the statements are not yours to turn. If you find one false, say at which input.
  Laid BY PROGRAM, IN A SANDBOX (cutbox-rows.mjs): the forced cells as the released guide's own fill.sh prints them over the translation 2b3bdc0855a21c8d… (all of the seat's roots in one cut). By AI agents, Wed Nov 11 2026. No macro, syntax, notation, axiom, sorry.
-/
import Derived.Test.YtpecghojagifmaaDoorChecked
import GoSem.Claim
import GoSem.ClaimJoined
import GoSem.ClaimMapViews
import Derived.JoinedTies
import Derived.KernelRfl
namespace Go.Proofs.YtpecghojagifmaaDoor
/- THE CELL 'sum', in the pinned program and in every row, IS THE sha256 OF THE DUMP (.gsa) THAT YtpecghojagifmaaDoorProg.lean LOADS. Nothing in Lean hashes anything: it is a label: what it is worth is what the hold of that sum in a sandbox is worth. -/
noncomputable def Tryd.pinned : Pinned := { name := "ytpecghojagifmaadoor", sum := "2b3bdc0855a21c8d78f1b25ea15006ab2e31daec8eff62a52131bc364b4db38d", checked := Tryd.checked }
namespace Rows
def none {H : Type} : Left H := { results := [], args := [] }

/- WHAT THE LISTED PACKAGE-LEVEL VARIABLES READ AS WHEN THE CALL BEGINS. Each datum BY PROGRAM (the guide's laid-datum.mjs) off the statement by which the dump's own 'gosem.cut.vars' lays the variable. In a bare row this is a premise. The card (YtpecghojagifmaaDoorCards.lean) ties it to the program's text. -/
def laid_math_bits_deBruijn32tab {H : Type} : DataW H := .agg [.lit (.int .u8 0), .lit (.int .u8 1), .lit (.int .u8 28), .lit (.int .u8 2), .lit (.int .u8 29), .lit (.int .u8 14), .lit (.int .u8 24), .lit (.int .u8 3), .lit (.int .u8 30), .lit (.int .u8 22), .lit (.int .u8 20), .lit (.int .u8 15), .lit (.int .u8 25), .lit (.int .u8 17), .lit (.int .u8 4), .lit (.int .u8 8), .lit (.int .u8 31), .lit (.int .u8 27), .lit (.int .u8 13), .lit (.int .u8 23), .lit (.int .u8 21), .lit (.int .u8 19), .lit (.int .u8 16), .lit (.int .u8 7), .lit (.int .u8 26), .lit (.int .u8 12), .lit (.int .u8 18), .lit (.int .u8 6), .lit (.int .u8 11), .lit (.int .u8 5), .lit (.int .u8 10), .lit (.int .u8 9)]
def laid_math_bits_deBruijn64tab {H : Type} : DataW H := .agg [.lit (.int .u8 0), .lit (.int .u8 1), .lit (.int .u8 56), .lit (.int .u8 2), .lit (.int .u8 57), .lit (.int .u8 49), .lit (.int .u8 28), .lit (.int .u8 3), .lit (.int .u8 61), .lit (.int .u8 58), .lit (.int .u8 42), .lit (.int .u8 50), .lit (.int .u8 38), .lit (.int .u8 29), .lit (.int .u8 17), .lit (.int .u8 4), .lit (.int .u8 62), .lit (.int .u8 47), .lit (.int .u8 59), .lit (.int .u8 36), .lit (.int .u8 45), .lit (.int .u8 43), .lit (.int .u8 51), .lit (.int .u8 22), .lit (.int .u8 53), .lit (.int .u8 39), .lit (.int .u8 33), .lit (.int .u8 30), .lit (.int .u8 24), .lit (.int .u8 18), .lit (.int .u8 12), .lit (.int .u8 5), .lit (.int .u8 63), .lit (.int .u8 55), .lit (.int .u8 48), .lit (.int .u8 27), .lit (.int .u8 60), .lit (.int .u8 41), .lit (.int .u8 37), .lit (.int .u8 16), .lit (.int .u8 46), .lit (.int .u8 35), .lit (.int .u8 44), .lit (.int .u8 21), .lit (.int .u8 52), .lit (.int .u8 32), .lit (.int .u8 23), .lit (.int .u8 11), .lit (.int .u8 54), .lit (.int .u8 26), .lit (.int .u8 40), .lit (.int .u8 15), .lit (.int .u8 34), .lit (.int .u8 20), .lit (.int .u8 31), .lit (.int .u8 10), .lit (.int .u8 25), .lit (.int .u8 14), .lit (.int .u8 19), .lit (.int .u8 9), .lit (.int .u8 13), .lit (.int .u8 8), .lit (.int .u8 7), .lit (.int .u8 6)]
def laid_internal_strconv_uint64pow10 {H : Type} : DataW H := .agg [.lit (.int .u64 1), .lit (.int .u64 10), .lit (.int .u64 100), .lit (.int .u64 1000), .lit (.int .u64 10000), .lit (.int .u64 100000), .lit (.int .u64 1000000), .lit (.int .u64 10000000), .lit (.int .u64 100000000), .lit (.int .u64 1000000000), .lit (.int .u64 10000000000), .lit (.int .u64 100000000000), .lit (.int .u64 1000000000000), .lit (.int .u64 10000000000000), .lit (.int .u64 100000000000000), .lit (.int .u64 1000000000000000), .lit (.int .u64 10000000000000000), .lit (.int .u64 100000000000000000), .lit (.int .u64 1000000000000000000), .lit (.int .u64 10000000000000000000)]
def laid_larder_edi_ErrLong {H : Type} : DataW H := .iface "*errors.errorString" (.ptr (.agg [.lit (.string [116, 104, 101, 32, 116, 101, 120, 116, 32, 105, 115, 32, 116, 111, 111, 32, 108, 111, 110, 103])]))
def laid_larder_edi_ErrShort {H : Type} : DataW H := .iface "*errors.errorString" (.ptr (.agg [.lit (.string [116, 104, 101, 32, 116, 101, 120, 116, 32, 101, 110, 100, 115, 32, 116, 111, 111, 32, 101, 97, 114, 108, 121])]))
def laid_larder_edi_ErrTail {H : Type} : DataW H := .iface "*errors.errorString" (.ptr (.agg [.lit (.string [115, 111, 109, 101, 116, 104, 105, 110, 103, 32, 115, 116, 97, 110, 100, 115, 32, 98, 101, 104, 105, 110, 100, 32, 116, 104, 101, 32, 101, 110, 100])]))
def laid_larder_edi_ErrHead {H : Type} : DataW H := .iface "*errors.errorString" (.ptr (.agg [.lit (.string [116, 104, 105, 115, 32, 105, 115, 32, 110, 111, 32, 104, 101, 97, 100, 32, 111, 102, 32, 97, 110, 32, 105, 110, 116, 101, 114, 99, 104, 97, 110, 103, 101])]))
def laid_larder_edi_ErrSeparator {H : Type} : DataW H := .iface "*errors.errorString" (.ptr (.agg [.lit (.string [116, 104, 101, 32, 115, 101, 112, 97, 114, 97, 116, 111, 114, 115, 32, 109, 97, 121, 32, 110, 111, 116, 32, 98, 101, 32, 115, 111])]))
def laid_larder_edi_ErrTag {H : Type} : DataW H := .iface "*errors.errorString" (.ptr (.agg [.lit (.string [116, 104, 105, 115, 32, 115, 101, 103, 109, 101, 110, 116, 32, 109, 97, 121, 32, 110, 111, 116, 32, 115, 116, 97, 110, 100, 32, 104, 101, 114, 101])]))
def laid_larder_edi_ErrElement {H : Type} : DataW H := .iface "*errors.errorString" (.ptr (.agg [.lit (.string [116, 104, 105, 115, 32, 101, 108, 101, 109, 101, 110, 116, 32, 109, 97, 121, 32, 110, 111, 116, 32, 98, 101, 32, 115, 111])]))
def laid_larder_edi_ErrCount {H : Type} : DataW H := .iface "*errors.errorString" (.ptr (.agg [.lit (.string [116, 104, 105, 115, 32, 105, 115, 32, 110, 111, 116, 32, 104, 111, 119, 32, 109, 97, 110, 121, 32, 116, 104, 101, 114, 101, 32, 97, 114, 101])]))
def laid_larder_edi_ErrControl {H : Type} : DataW H := .iface "*errors.errorString" (.ptr (.agg [.lit (.string [116, 104, 105, 115, 32, 105, 115, 32, 110, 111, 116, 32, 116, 104, 101, 32, 99, 111, 110, 116, 114, 111, 108, 32, 110, 117, 109, 98, 101, 114])]))
def laid_larder_edi_ErrSet {H : Type} : DataW H := .iface "*errors.errorString" (.ptr (.agg [.lit (.string [116, 104, 105, 115, 32, 107, 105, 110, 100, 32, 111, 102, 32, 115, 101, 116, 32, 109, 97, 121, 32, 110, 111, 116, 32, 115, 116, 97, 110, 100, 32, 104, 101, 114, 101])]))
def laid_larder_edi_ErrDocument {H : Type} : DataW H := .iface "*errors.errorString" (.ptr (.agg [.lit (.string [116, 104, 105, 115, 32, 105, 115, 32, 110, 111, 32, 115, 117, 99, 104, 32, 100, 111, 99, 117, 109, 101, 110, 116])]))

/-- 'larderlaw05.EdiErrors': WHATEVER THE INPUT: true; the input reads as it did. -/
def ediErrorsSpec : ChangeSpec := { name := "ediErrors", fn := fun _ => fun
  | [] => { results := [.lit (.bool true)], args := [] }
  | _ => none }
def ediErrorsRow : OpenClaim := { program := "ytpecghojagifmaadoor", sum := "2b3bdc0855a21c8d78f1b25ea15006ab2e31daec8eff62a52131bc364b4db38d", func := "larder/larderlaw05.EdiErrors", spec := "ediErrors", inPlace := ["internal/reflectlite.TypeOf"], unfollowed := true, recurses := true, named := ["larder/edi.ErrTag", "larder/edi.ErrLong", "larder/edi.ErrShort", "larder/edi.ErrTail", "larder/edi.ErrHead", "larder/edi.ErrSeparator", "larder/edi.ErrElement", "larder/edi.ErrCount", "larder/edi.ErrControl", "larder/edi.ErrSet", "larder/edi.ErrDocument", "internal/strconv.uint64pow10", "math/bits.deBruijn32tab", "math/bits.deBruijn64tab"], apart := false, laid := [("math/bits.deBruijn32tab", laid_math_bits_deBruijn32tab), ("math/bits.deBruijn64tab", laid_math_bits_deBruijn64tab), ("internal/strconv.uint64pow10", laid_internal_strconv_uint64pow10), ("larder/edi.ErrLong", laid_larder_edi_ErrLong), ("larder/edi.ErrShort", laid_larder_edi_ErrShort), ("larder/edi.ErrTail", laid_larder_edi_ErrTail), ("larder/edi.ErrHead", laid_larder_edi_ErrHead), ("larder/edi.ErrSeparator", laid_larder_edi_ErrSeparator), ("larder/edi.ErrTag", laid_larder_edi_ErrTag), ("larder/edi.ErrElement", laid_larder_edi_ErrElement), ("larder/edi.ErrCount", laid_larder_edi_ErrCount), ("larder/edi.ErrControl", laid_larder_edi_ErrControl), ("larder/edi.ErrSet", laid_larder_edi_ErrSet), ("larder/edi.ErrDocument", laid_larder_edi_ErrDocument)] }
def EdiErrorsSaid : Prop := ediErrorsRow.holds Tryd.pinned (OpenSpec.ofChange ediErrorsSpec)

/-- ITS FALSE NEIGHBOUR: 'it returns false'. Refute it at one input. -/
def ediErrorsWrong : ChangeSpec := { name := "ediErrors", fn := fun _ => fun
  | [] => { results := [.lit (.bool false)], args := [] }
  | _ => none }
def EdiErrorsWrongFalsely : Prop := ediErrorsRow.holds Tryd.pinned (OpenSpec.ofChange ediErrorsWrong)

/- THE SECOND FORM. 'bulk': how many values and letters a reading holds, each counted each time it is reached (what is shared counts as often as it is met; a slice's spare places count too). A statement '..UptoSaid' is the law's where the arguments, and the package variables that the reading takes, are together of bulk at most 1048576: NARROWER than '..Said'. Prove '..Said' where nothing that the law and all that it calls make is longer than what came in: it says more and counts as full. Else prove '..UptoSaid'. A law counts once. -/
mutual
def uptoBulk {H : Type} : DataW H → Nat
  | .lit (.string bytes) => bytes.length + 1
  | .lit _ => 1
  | .nil => 1
  | .ptr d => uptoBulk d + 1
  | .slice elems spare => uptoBulkAll elems + uptoBulkAll spare + 1
  | .agg parts => uptoBulkAll parts + 1
  | .iface _ d => uptoBulk d + 1
  | .map entries => uptoBulkEntries entries + 1
  | .held _ => 1
def uptoBulkAll {H : Type} : List (DataW H) → Nat
  | [] => 0
  | d :: r => uptoBulk d + uptoBulkAll r
def uptoBulkEntries {H : Type} : List (Lit × DataW H) → Nat
  | [] => 0
  | x :: r => uptoBulkEntry x + uptoBulkEntries r
def uptoBulkEntry {H : Type} : Lit × DataW H → Nat
  | (.string bytes, d) => bytes.length + uptoBulk d + 1
  | (_, d) => uptoBulk d + 1
 end
def uptoSmall : (H : Type) → List (DataW H) → Bool := fun _ ds => decide (uptoBulkAll ds ≤ 1048576)
def OpenSpec.upto (s : _root_.Go.ChangeSpec) : _root_.Go.OpenSpec := { _root_.Go.OpenSpec.ofChange s with cond := some uptoSmall }

/-- 'larderlaw05.EdiErrors', WHERE WHAT IT READS IS OF BULK AT MOST 1048576: true; the input reads as it did. -/
def ediErrorsUptoRow : OpenClaim := { program := "ytpecghojagifmaadoor", sum := "2b3bdc0855a21c8d78f1b25ea15006ab2e31daec8eff62a52131bc364b4db38d", func := "larder/larderlaw05.EdiErrors", spec := "ediErrors", inPlace := ["internal/reflectlite.TypeOf"], unfollowed := true, recurses := true, named := ["larder/edi.ErrTag", "larder/edi.ErrLong", "larder/edi.ErrShort", "larder/edi.ErrTail", "larder/edi.ErrHead", "larder/edi.ErrSeparator", "larder/edi.ErrElement", "larder/edi.ErrCount", "larder/edi.ErrControl", "larder/edi.ErrSet", "larder/edi.ErrDocument", "internal/strconv.uint64pow10", "math/bits.deBruijn32tab", "math/bits.deBruijn64tab"], apart := false, laid := [("math/bits.deBruijn32tab", laid_math_bits_deBruijn32tab), ("math/bits.deBruijn64tab", laid_math_bits_deBruijn64tab), ("internal/strconv.uint64pow10", laid_internal_strconv_uint64pow10), ("larder/edi.ErrLong", laid_larder_edi_ErrLong), ("larder/edi.ErrShort", laid_larder_edi_ErrShort), ("larder/edi.ErrTail", laid_larder_edi_ErrTail), ("larder/edi.ErrHead", laid_larder_edi_ErrHead), ("larder/edi.ErrSeparator", laid_larder_edi_ErrSeparator), ("larder/edi.ErrTag", laid_larder_edi_ErrTag), ("larder/edi.ErrElement", laid_larder_edi_ErrElement), ("larder/edi.ErrCount", laid_larder_edi_ErrCount), ("larder/edi.ErrControl", laid_larder_edi_ErrControl), ("larder/edi.ErrSet", laid_larder_edi_ErrSet), ("larder/edi.ErrDocument", laid_larder_edi_ErrDocument)], narrowed := true }
def EdiErrorsUptoSaid : Prop := ediErrorsUptoRow.holds Tryd.pinned (OpenSpec.upto ediErrorsSpec)

end Rows
end Go.Proofs.YtpecghojagifmaaDoor
