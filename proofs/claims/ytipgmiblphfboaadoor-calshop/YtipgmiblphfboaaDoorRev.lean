/-
  slices.Reverse of the shelf at this seat's own translation, laid by the guide's commands.
-/
import Derived.Shelf.SlGeneric
import Derived.Shelf.SlicesQ.Reverse
import Derived.Ground.SlgnProg
import Derived.Test.YtipgmiblphfboaaDoorProg
namespace Go.Proofs
open Go.Shelf
def Tryd.revSp_ren : Go.Shelf.Ren := ⟨fun | 35 => 29 | n => n, fun | 22 => 44 | 23 => 66 | 3 => 3 | 4 => 4 | 0 => 0 | n => n, fun | n => n⟩
theorem Tryd.revSp : Go.Proofs.SlLaysE0.n35 Tryd.prog Tryd.revSp_ren := {
  mixed := by kernel_rfl
  f35 := ⟨Tryd.f29.name, by decide, Tryd.func29.trans (congrArg some (by kernel_rfl))⟩
  t0 := Tryd.underlying0
  a0 := Tryd.isAgg0
  z0 := Tryd.sizeOf0
  v0 := Tryd.zeroValue0
  t3 := Tryd.underlying3
  a3 := Tryd.isAgg3
  z3 := Tryd.sizeOf3
  v3 := Tryd.zeroValue3
  t4 := Tryd.underlying4
  a4 := Tryd.isAgg4
  z4 := Tryd.sizeOf4
  v4 := Tryd.zeroValue4
  t22 := Tryd.underlying44
  a22 := Tryd.isAgg44
  z22 := Tryd.sizeOf44
  v22 := Tryd.zeroValue44 }
end Go.Proofs
