/-
  Pack, the program's.
-/
import Derived.Test.YthpdimhkgkefhaaDoorLevels
namespace Go.Proofs.YthpdimhkgkefhaaDoor
open Go.RowKit
set_option maxRecDepth 100000

/-- what Pack answers: the error, the text -/
def pckE (l : List UInt8) (v : Int) : Int := if nrmE l ≠ 0 then nrmE l else if v < 1 ∨ 9 < v then 2 else 0
def lvC (v : Int) : UInt8 := UInt8.ofNat (48 + v.toNat)
def pckT (l : List UInt8) (v : Int) : List UInt8 := if pckE l v = 0 then lv (nrm l) (lvC v) else []

theorem lvC_toNat {v : Int} (h0 : 0 ≤ v) (h9 : v ≤ 9) : 48 + v = ((lvC v).toNat : Int) := by
  unfold lvC
  rw [UInt8.toNat_ofNat']
  omega



end Go.Proofs.YthpdimhkgkefhaaDoor
