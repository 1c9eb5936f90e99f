/-
  wheel: a new wheel.
-/
import Derived.Test.YtffmlnocednehaaWh4
namespace Go.Proofs.Ytffmlnocednehaa
open Go.RowKit
set_option maxRecDepth 100000

/-- a wheel's cells: the time, the slots, the map -/
def whR (now : Int) (R : List Value) (m : Value) : Array Value := (.int .i64 now :: (R ++ [m])).toArray
def noR : List Value := List.replicate 448 (.pointer none)
theorem new_zero (w : World) : Calls Try.prog 21 #[.int .i64 0] w fun e w' => e = .returned (.tuple #[.pointer (some ⟨w.heap.size, 0, none⟩), .int .i64 0]) ∧ w' = w.alloc (.cells (whR 0 noR (.map none)) 63) := by
  have hb : ∀ w : World, (Instr.build 63 #[(0, .int .i64 0)]).run Try.prog w = .ok (.agg (whR 0 noR (.map none))) w := fun w => by kernel_rfl
  go_enter Try.func21, Try.ntmps21
  go_wp2_with fail
  refine Calls.mono (isTime_any 0 _ (by omega) (by omega)) ?_
  rintro e w1 ⟨rfl, rfl⟩
  go_wp2
  go_ret2
  exact ⟨rfl, rfl⟩
end Go.Proofs.Ytffmlnocednehaa
