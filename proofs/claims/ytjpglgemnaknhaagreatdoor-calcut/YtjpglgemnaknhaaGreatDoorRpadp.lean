/-
  The document's pad and part.
-/
import Derived.Test.YtjpglgemnaknhaaGreatDoorDecp
import Derived.Test.YtjpglgemnaknhaaGreatDoorBytes
namespace Go.Proofs.YtjpglgemnaknhaaGreatDoor
open Go.RowKit
set_option maxRecDepth 100000

/-- a text of one byte -/
theorem run_one (w : World) (z : Int) (c : UInt8) (h : z = (c.toNat : Int)) :
    (convert 101 9 (.slice (some ⟨w.heap.size, 0, none⟩) 1 1)).run Tryz.prog (w.alloc (.cells #[.int .u8 z] 5)) = .ok (.string ⟨#[c]⟩) (w.alloc (.cells #[.int .u8 z] 5)) :=
  run_text (l := [c]) 101 9 Tryz.underlying101 Tryz.underlying5 Tryz.underlying9 (reads_one w c z h)

theorem ba_ext {a b : ByteArray} (h : a.data.toList = b.data.toList) : a = b := by
  cases a with | mk x =>
  cases b with | mk y =>
  congr 1
  exact Array.toList_inj.1 h

theorem len_ba (s : ByteArray) : s.data.toList.length = s.size := Array.length_toList

end Go.Proofs.YtjpglgemnaknhaaGreatDoor
