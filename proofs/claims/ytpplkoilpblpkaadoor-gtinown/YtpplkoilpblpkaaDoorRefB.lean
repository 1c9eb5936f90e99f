/-
  The document's own held, beside, lonely, char.
-/
import Derived.Test.YtpplkoilpblpkaaDoorPrM
namespace Go.Proofs.YtpplkoilpblpkaaDoor
open Go.RowKit
set_option maxRecDepth 100000

def chB (c : UInt8) : Bool := decide (IsLet c) || isDB c || marksL.contains c
theorem chF_all : ∀ n : Fin 256, chF (UInt8.ofNat n.val) = if chB (UInt8.ofNat n.val) = true then 0 else 27 := by decide +kernel
theorem chF_is (c : UInt8) : chF c = if chB c = true then 0 else 27 := by
  have h := chF_all ⟨c.toNat, c.toNat_lt⟩
  simpa using h

end Go.Proofs.YtpplkoilpblpkaaDoor
