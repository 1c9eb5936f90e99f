/-
  Wy2: Sheets: the text of a Why, and of a Fault with a Why inside.
-/
import Derived.Test.YtmgfdnccmeahjaaGreatDoorYSdg
import Derived.Test.YtmgfdnccmeahjaaGreatDoorYWy1
namespace Go.Proofs.YtmgfdnccmeahjaaGreatDoor
open Go.RowKit
set_option maxRecDepth 100000
set_option linter.unusedVariables false
set_option linter.unusedSimpArgs false

end Go.Proofs.YtmgfdnccmeahjaaGreatDoor
