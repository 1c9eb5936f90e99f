/-
  The document's own days: leap, long, ahead, Valid, number, Days, date, Of.
-/
import Derived.Test.YtjpglgemnaknhaaGreatDoorCof
namespace Go.Proofs.YtjpglgemnaknhaaGreatDoor
open Go.RowKit
set_option maxRecDepth 100000

end Go.Proofs.YtjpglgemnaknhaaGreatDoor
