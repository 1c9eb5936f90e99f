/-
  Move: the n-th open day behind a day, or ahead of it.
-/
import Derived.Test.YtipgmiblphfboaaDoorShd1
import Derived.Test.YtipgmiblphfboaaDoorShd2
import Derived.Test.YtipgmiblphfboaaDoorShd3
namespace Go.Proofs.YtipgmiblphfboaaDoor
open Go.RowKit Go.Shelf

theorem move_any (wk : Nat → Bool) (D E : List (Int × Int × Int)) (v1 v2 : Value) (y m d n : Int) (w : World) (h1 : RL eD 3 w v1 D) (h2 : RL eD 3 w v2 E) (hA : HasAh w) :
    Calls Tryd.prog 10 #[rlV wk v1 v2, dV y m d, .int .i64 n] w fun e w' => (∃ X er, e = .returned (.tuple #[dV X.1 X.2.1 X.2.2, .int .i64 er]) ∧ MovR wk D E y m d n X er) ∧ Below w.heap.size w w' := by
  rcases (show n = 0 ∨ 0 < n ∨ n < 0 by omega) with h | h | h
  · exact move_zero wk D E v1 v2 y m d n h w h1 h2 hA
  · exact move_on wk D E v1 v2 y m d n h w h1 h2 hA
  · exact move_back wk D E v1 v2 y m d n h w h1 h2 hA
end Go.Proofs.YtipgmiblphfboaaDoor
