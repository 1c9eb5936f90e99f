/-
  Normal on the document's side.
-/
import Derived.Test.YtcenlpfanikdnaaDoorLevels
namespace Go.Proofs.YtcenlpfanikdnaaDoor
open Go.RowKit
set_option maxRecDepth 100000

/-- a string's size -/
def strLen : Value → Nat
  | .string s => s.size
  | _ => 0

end Go.Proofs.YtcenlpfanikdnaaDoor
