/-
  The document's own PrintDate, form by form.
-/
import Derived.Test.YtjpglgemnaknhaaGreatDoorPprint
import Derived.Test.YtjpglgemnaknhaaGreatDoorRweek
namespace Go.Proofs.YtjpglgemnaknhaaGreatDoor
open Go.RowKit
set_option maxRecDepth 100000

end Go.Proofs.YtjpglgemnaknhaaGreatDoor
