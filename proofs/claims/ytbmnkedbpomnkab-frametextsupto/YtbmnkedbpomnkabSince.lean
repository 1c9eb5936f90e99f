/-
  Texts of bytes in later worlds: what a region that draws its order needs of a conversion.
-/
import Derived.Test.YtbmnkedbpomnkabLend
import Derived.Deep.CutRange
import Derived.Deep.RegionWith
import Derived.Deep.DrawnRows
namespace Go.Proofs.Ytbmnkedbpomnkab
open Go.RowKit

/-- a world behind another: nothing old has turned -/
def Since (w w' : World) : Prop := Below w.heap.size w w'

theorem text_since {w : World} {v : Value} {l : List UInt8} (h : Reads w v l) : ∀ w', Since w w' → (convert 22 9 v).run Try.prog w' = .ok (.string ⟨l.toArray⟩) w' :=
  fun _ hw => run_text 22 9 Try.underlying22 Try.underlying5 Try.underlying9 (h.below hw)

end Go.Proofs.Ytbmnkedbpomnkab
