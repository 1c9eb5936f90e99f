/-
  The document's own PrintDate, form by form.
-/
import Derived.Test.YtcmllfipaiacfaaGreatDoorPprint
import Derived.Test.YtcmllfipaiacfaaGreatDoorRweek
namespace Go.Proofs.YtcmllfipaiacfaaGreatDoor
open Go.RowKit
set_option maxRecDepth 100000

end Go.Proofs.YtcmllfipaiacfaaGreatDoor
