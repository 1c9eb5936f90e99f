/-
  math.Sqrt.
-/
import Derived.Test.YtgnnopjkbmbjbaaDoorFl1
import Derived.Laws.Externs
namespace Go.Proofs.YtgnnopjkbmbjbaaDoor
open Go.RowKit
set_option maxRecDepth 100000

theorem run_sqrtF {a r : Nat} (h : dbl.sqrt a = some r) (w : World) : (callFunc 13 #[.float .f64 a]).run Tryd.prog w = .ok (.value (.float .f64 r)) w := by
  have h' : FloatKind.f64.format.sqrt a = some r := h
  rw [run_callFunc_extern (e := Extern.MathSqrt.sqrt) Tryd.func13 (by kernel_rfl) (by kernel_rfl) (by kernel_rfl) (by kernel_rfl)]
  have e : Extern.MathSqrt.sqrt #[.float .f64 a] = pure (.float .f64 r) := by
    conv => lhs; whnf
    rw [h']
  rw [e]
  rfl
theorem sqrt_any {a r : Nat} (h : dbl.sqrt a = some r) (w : World) : Calls Tryd.prog 12 #[.float .f64 a] w fun e w' => e = .returned (.float .f64 r) ∧ w' = w := by
  have h1 := fun w => run_sqrtF h w
  clear h
  go_enter Tryd.func12, Tryd.ntmps12
  go_wp2
  go_ret
  exact ⟨rfl, rfl⟩
end Go.Proofs.YtgnnopjkbmbjbaaDoor
