/-
  The document's own Print.
-/
import Derived.Test.YtpplkoilpblpkaaDoorFits
import Derived.Test.YtpplkoilpblpkaaDoorPrn
namespace Go.Proofs.YtpplkoilpblpkaaDoor
open Go.RowKit
set_option maxRecDepth 100000

theorem ba_of_list (l : List UInt8) : (⟨l.toArray⟩ : ByteArray).data.toList = l := by simp
theorem ba_app (s t : ByteArray) : (s ++ t).data.toList = s.data.toList ++ t.data.toList := by simp [ByteArray.data_append]

end Go.Proofs.YtpplkoilpblpkaaDoor
