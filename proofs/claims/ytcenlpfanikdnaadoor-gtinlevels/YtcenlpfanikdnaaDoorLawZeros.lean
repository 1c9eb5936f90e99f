/-
  GtinZeros: the law's own walk, out of the contracts.
-/
import Derived.Test.YtcenlpfanikdnaaDoorMade
import Derived.Test.YtcenlpfanikdnaaDoorTrade
namespace Go.Proofs.YtcenlpfanikdnaaDoor
open Go.RowKit
set_option maxRecDepth 100000

theorem size_list (l : List UInt8) : (⟨l.toArray⟩ : ByteArray).size = l.length := by rw [← len_list]

end Go.Proofs.YtcenlpfanikdnaaDoor
