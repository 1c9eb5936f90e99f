/-
  Sheets: a number brought into 0 to n - 1.
-/
import Derived.Test.YtpgpeafmlijfkaaDoorRows
import Derived.WalkKit
import Derived.ProofKit
namespace Go.Proofs.YtpgpeafmlijfkaaDoor
open Go.RowKit
set_option maxRecDepth 100000
set_option linter.unusedVariables false
set_option maxHeartbeats 2000000 in
theorem with_any (k : Int) (n : Nat) (w : World) (h0 : -9223372036854775808 ≤ k) (h1 : k ≤ 9223372036854775807) (hn : 1 ≤ n ∧ n ≤ 281474976710656) :
    Calls Tryd.prog 12 #[.int .i64 k, .int .i64 (n : Int)] w fun e w' => (∃ m : Nat, m < n ∧ e = .returned (.int .i64 (m : Int))) ∧ w' = w := by
  have hne : ¬ (n : Int) = 0 := by omega
  have hn1 : ¬ (n : Int) = -1 := by omega
  have ht1 : k.tmod (n : Int) < (n : Int) := Int.tmod_lt_of_pos k (by omega)
  have ht2 : -(n : Int) < k.tmod (n : Int) := by
    have := Int.lt_tmod_of_pos k (show (0 : Int) < (n : Int) by omega)
    omega
  generalize ht : k.tmod (n : Int) = t at *
  by_cases hs : t < 0
  · go_enter Tryd.func12, Tryd.ntmps12
    go_wp2
    go_ret
    exact ⟨⟨(t + (n : Int)).toNat, by omega, by rw [Int.toNat_of_nonneg (by omega)]; rfl⟩, rfl⟩
  · go_enter Tryd.func12, Tryd.ntmps12
    go_wp2
    go_ret
    exact ⟨⟨t.toNat, by omega, by rw [Int.toNat_of_nonneg (by omega)]; rfl⟩, rfl⟩
end Go.Proofs.YtpgpeafmlijfkaaDoor
