/-
  Least: the document's numbers.
-/
import Derived.Test.YtaiccmbhdgecgaaSc1
namespace Go.Proofs.Ytaiccmbhdgecgaa
open Go.RowKit
set_option maxRecDepth 100000

theorem numbers7_any (v : Value) (R : List Int) (w : World) (hr : RI w v R) (hl : R.length ≤ 9223372036854775807) :
    Calls Try.prog 53 #[v] w fun e w' => e = .returned (.bool (inB R 16)) ∧ w' = w := by
  obtain ⟨ao, cap, rfl, hpc, hpn, hcell⟩ := hr
  have HC : Hid (_) := hcell
  clear hcell hpn
  go_enter Try.func53, Try.ntmps53
  go_wp2
  go_loop [3] (fun i => ∃ k : Nat, k ≤ R.length ∧ i = .int .i64 k ∧ ∀ j (h : j < R.length), j < k → 0 ≤ R[j] ∧ R[j] < 16) (fun i => R.length - (intOf i).toNat)
  case atStart => exact ⟨0, by omega, rfl, fun j _ h => by omega⟩
  case round =>
    obtain ⟨k, hk, rfl, hin⟩ := hrel
    have HI := hid hin
    clear hin
    by_cases h : k < R.length
    · obtain ⟨g, off, hao, c2⟩ := HC.out k h
      subst hao
      have HS := hid (show ∀ (_ : 0 ≤ R[k] ∧ R[k] < 16), ∀ j (h : j < R.length), j < k + 1 → 0 ≤ R[j] ∧ R[j] < 16 from fun hx j hj hjk => by
        by_cases e : j = k
        · subst e; exact hx
        · exact HI.out j hj (by omega))
      have HN := hid (show ¬ (0 ≤ R[k] ∧ R[k] < 16) → inB R 16 = false from fun hx => Bool.eq_false_iff.2 fun hy => hx ((inB_iff R 16).1 hy k h))
      generalize R[k] = x at c2 HS HN
      have hI : (k : Int) < (R.length : Int) := by omega
      by_cases h0 : x < 0
      · go_wp2
        go_ret
        exact ⟨by rw [HN.out (by omega)]; rfl, rfl⟩
      · by_cases h1 : 16 ≤ x
        · go_wp2
          go_ret
          exact ⟨by rw [HN.out (by omega)]; rfl, rfl⟩
        · go_wp2
          go_round
          case rel => exact ⟨k + 1, by omega, by go_num, HS.out ⟨by omega, by omega⟩⟩
          case measure => simp [intOf]; omega
    · have hI : ¬ (k : Int) < (R.length : Int) := by omega
      go_wp2
      go_ret
      exact ⟨by rw [(inB_iff R 16).2 fun j hj => HI.out j hj (by omega)]; rfl, rfl⟩
end Go.Proofs.Ytaiccmbhdgecgaa
