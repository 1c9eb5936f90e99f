/-
  PlanPoints: the walk.
-/
import Derived.Test.YtgnnopjkbmbjbabFp3
namespace Go.Proofs.Ytgnnopjkbmbjbab
open Go.RowKit
set_option maxRecDepth 100000
set_option linter.unusedSimpArgs false

set_option maxHeartbeats 1000000 in
theorem planPoints_any (M D Z : Nat) (L : Int) (w : World) : Calls Try.prog 3 #[.agg #[.float .f64 M, .float .f64 D, .float .f64 Z, .int .i64 L]] w fun e w' => e = .returned (.bool true) ∧ Below w.heap.size w w' := by
  have P1 := hid (fun wx => point_any M D Z L wx)
  have P2 := hid (fun wx => rpoint_any M D Z L wx)
  have c0 := row_at w 24 [.float .f64 M, .float .f64 D, .float .f64 Z, .int .i64 L]
  have x0 := c0 0 _ rfl
  have x1 := c0 1 _ rfl
  have x2 := c0 2 _ rfl
  have x3 := c0 3 _ rfl
  have B := hid (alloc_below w (.cells #[.float .f64 M, .float .f64 D, .float .f64 Z, .int .i64 L] 24))
  have XX := hid (And.intro x0 (And.intro x1 (And.intro x2 x3)))
  clear c0 x0 x1 x2 x3
  go_enter Try.func3, Try.ntmps3
  go_wp2_with fail
  refine Calls.mono (P1.out _) ?_
  rintro e w1 ⟨⟨k, er, rfl, hA⟩, s1⟩
  have B1 := hid (bel_step B.out s1)
  have x0 := below_cells s1 _ _ XX.out.1
  have x1 := below_cells s1 _ _ XX.out.2.1
  have x2 := below_cells s1 _ _ XX.out.2.2.1
  have x3 := below_cells s1 _ _ XX.out.2.2.2
  have HA := hid hA
  clear s1 hA
  go_wp2_with fail
  refine Calls.mono (P2.out _) ?_
  rintro e w2 ⟨⟨k', er', rfl, hA'⟩, s2⟩
  obtain ⟨rfl, rfl⟩ := HA.out.same hA'
  have B2 := hid (bel_step B1.out s2)
  clear s2 hA' x0 x1 x2 x3
  go_wp2
  go_ret
  exact ⟨rfl, B2.out⟩
end Go.Proofs.Ytgnnopjkbmbjbab
