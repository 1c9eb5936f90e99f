/-
  plan: the law's within.
-/
import Derived.Test.YtgnnopjkbmbjbabPq0
namespace Go.Proofs.Ytgnnopjkbmbjbab
open Go.RowKit
set_option maxRecDepth 100000
set_option linter.unusedSimpArgs false

/-- numbers that are ints -/
def I64 (n : Int) : Prop := -9223372036854775808 ≤ n ∧ n ≤ 9223372036854775807
set_option maxHeartbeats 1000000 in
theorem lwithin_any (x lo hi : Int) (w : World) (hx : I64 x) (h1 : 0 ≤ lo) (h2 : lo ≤ hi) (h3 : hi ≤ 1099511627776) :
    Calls Try.prog 9 #[.int .i64 x, .int .i64 lo, .int .i64 hi] w fun e w' => ∃ r : Int, e = .returned (.int .i64 r) ∧ (lo ≤ r ∧ r ≤ hi) ∧ w' = w := by
  obtain ⟨x1, x2⟩ := hx
  have hm : 0 < hi - lo + 1 := by omega
  have hm0 : ¬ hi - lo + 1 = 0 := by omega
  by_cases hn : x < 0
  · have e1 : (-(x + 1)).tmod (hi - lo + 1) = (-(x + 1)) % (hi - lo + 1) := Int.tmod_eq_emod_of_nonneg (by omega)
    have b1 := Int.emod_nonneg (-(x + 1)) hm0
    have b2 := Int.emod_lt_of_pos (-(x + 1)) hm
    generalize (-(x + 1)) % (hi - lo + 1) = r at *
    go_enter Try.func9, Try.ntmps9
    go_wp2
    go_ret
    exact ⟨_, rfl, ⟨by omega, by omega⟩, rfl⟩
  · have e1 : x.tmod (hi - lo + 1) = x % (hi - lo + 1) := Int.tmod_eq_emod_of_nonneg (by omega)
    have b1 := Int.emod_nonneg x hm0
    have b2 := Int.emod_lt_of_pos x hm
    generalize x % (hi - lo + 1) = r at *
    go_enter Try.func9, Try.ntmps9
    go_wp2
    go_ret
    exact ⟨_, rfl, ⟨by omega, by omega⟩, rfl⟩
end Go.Proofs.Ytgnnopjkbmbjbab
