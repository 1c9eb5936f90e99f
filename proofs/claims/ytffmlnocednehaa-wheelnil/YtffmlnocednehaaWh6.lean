/-
  wheel: its cells.
-/
import Derived.Test.YtffmlnocednehaaWh5
namespace Go.Proofs.Ytffmlnocednehaa
open Go.RowKit
set_option maxRecDepth 100000

theorem whR_0 (now : Int) (R : List Value) (m : Value) : (whR now R m)[0]? = some (.int .i64 now) := by simp [whR]
theorem whR_s {now : Int} {R : List Value} {m v : Value} {k : Nat} (h : R[k]? = some v) : (whR now R m)[1 + k]? = some v := by
  have hk := (List.getElem?_eq_some_iff.1 h).1
  rw [Nat.add_comm]
  simp [whR, List.getElem?_append_left hk, h]
theorem whR_m {now : Int} {R : List Value} {m : Value} (h : R.length = 448) : (whR now R m)[449]? = some m := by
  simp [whR, h]
end Go.Proofs.Ytffmlnocednehaa
