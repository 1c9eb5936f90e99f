/-
  The document's own Of; both sides of it.
-/
import Derived.Test.YtjmainmidacmfaaDoorRday
namespace Go.Proofs.YtjmainmidacmfaaDoor
open Go.RowKit
set_option maxRecDepth 100000

/-- nothing old has turned -/
def Later (w w' : World) : Prop := Below w.heap.size w w'

end Go.Proofs.YtjmainmidacmfaaDoor
