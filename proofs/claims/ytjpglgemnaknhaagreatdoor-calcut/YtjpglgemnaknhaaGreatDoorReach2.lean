/-
  How far a text stands as a shape begins: reach, and the document's agrees.
-/
import Derived.Test.YtjpglgemnaknhaaGreatDoorReach
namespace Go.Proofs.YtjpglgemnaknhaaGreatDoor
open Go.RowKit
set_option maxRecDepth 100000

end Go.Proofs.YtjpglgemnaknhaaGreatDoor
