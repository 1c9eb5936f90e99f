/-
  The row's own list, one further.
-/
import Derived.Stop.LaidErr
namespace Go.Proofs.YtjpglgemnaknhaaGreatDoor
theorem laid_tail {P : Program} {x : String × DataW Unit} {r : List (String × DataW Unit)} {w : World} (h : laidMet P (x :: r) w) : laidMet P r w := laidMet.tail h
end Go.Proofs.YtjpglgemnaknhaaGreatDoor
