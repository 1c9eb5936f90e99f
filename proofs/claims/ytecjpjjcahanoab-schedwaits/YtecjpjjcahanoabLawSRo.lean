/-
  SchedRounds: the law's walk.
-/
import Derived.Test.YtecjpjjcahanoabSr2
namespace Go.Proofs.Ytecjpjjcahanoab
open Go.RowKit Go.Shelf
set_option maxRecDepth 100000

def bnd (k n : Int) : Int := max 0 (min k n)
theorem rdt_at (n k i : Nat) (h : i < ((rdL n 65536).take k).length) : ((rdL n 65536).take k)[i] = (i : Int) % (n : Int) := by
  rw [List.getElem_take]
  simp [rdL]

end Go.Proofs.Ytecjpjjcahanoab
