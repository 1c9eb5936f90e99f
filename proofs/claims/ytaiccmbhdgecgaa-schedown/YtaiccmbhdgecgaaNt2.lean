/-
  Steps of few picks: Count.
-/
import Derived.Test.YtaiccmbhdgecgaaNt1
namespace Go.Proofs.Ytaiccmbhdgecgaa
open Go.RowKit
set_option maxRecDepth 100000

theorem quoK (c : Nat) (h1 : 1 ≤ c) (h6 : c ≤ 6) (y : Nat) (hy : y ≤ 6) : ¬ (4611686018427387904 : Int) / (c : Int) < (y : Int) := by
  match c, h1, h6 with
  | 1, _, _ => omega
  | 2, _, _ => omega
  | 3, _, _ => omega
  | 4, _, _ => omega
  | 5, _, _ => omega
  | 6, _, _ => omega
set_option maxHeartbeats 200000 in
theorem countOf_any (v : Value) (N : List Nat) (w : World) (hr : RI w v (iN N)) (hs : sN N N.length ≤ 3) (h0 : 1 ≤ N.length) (hl : N.length ≤ 16) :
    Calls Try.prog 9 #[v] w fun e w' => e = .returned (.tuple #[.int .i64 (cN N N.length : Int), .int .i64 0]) ∧ w' = w := by
  have HK := hid (areSteps_any v N w hr (by omega) h0 hl)
  obtain ⟨ao, cap, rfl, hc, hn0, hcell⟩ := hr
  rw [iN_len] at hc
  have HC := hid hcell
  clear hcell hn0
  rw [iN_len] at HK
  rw [iN_len]
  go_enter Try.func9, Try.ntmps9
  go_wp2_with fail
  refine Calls.mono HK.out ?_
  rintro e w1 ⟨rfl, rfl⟩
  clear HK
  go_wp2_with fail
  go_loopw [4, 5, 7, 8, 14] (fun vc vp _ _ vi wx => ∃ j : Nat, j ≤ N.length ∧ vi = .int .i64 (j : Int) ∧ vc = .int .i64 (cN N j : Int) ∧ vp = .int .i64 (sN N j : Int) ∧ wx = w1) (fun _ _ _ _ vi _ => N.length - (intOf vi).toNat)
  case atStart => exact ⟨0, Nat.zero_le _, rfl, rfl, rfl, rfl⟩
  case round =>
    obtain ⟨j, hj, rfl, rfl, rfl, rfl⟩ := hrel
    by_cases h : j < N.length
    · have hI : (j : Int) < (N.length : Int) := by omega
      obtain ⟨g, off, hao, c0⟩ := HC.out j (by rw [iN_len]; exact h)
      subst hao
      rw [iN_at N j _ h] at c0
      have HS := hid (show sN N (j + 1) = sN N j + N[j] by rw [← gN N j h]; rfl)
      have HD := hid (show cN N (j + 1) = cN N j * chs (sN N j + N[j]) N[j] N[j] by rw [← gN N j h]; rfl)
      have hm := sN_mono N (show j + 1 ≤ N.length by omega)
      have hc1 := cN_le N j (Nat.le_trans (sN_mono N hj) hs)
      have hc2 := cN_le N (j + 1) (by omega)
      rw [HS.out] at hm
      have HCh := hid (chosen_any (sN N j + N[j]) N[j] wr (by omega) (by omega))
      have hcc := chs_le (sN N j + N[j]) N[j] N[j] (by omega) (by omega) (Nat.le_refl _)
      have hf1 := f4_le (sN N j)
      generalize N[j] = x at c0 HS hm HD HCh hcc
      generalize sN N j = s at HS hm HD HCh hc1 hf1 hcc
      generalize chs (s + x) x x = y at HD HCh hcc
      generalize cN N j = c at HD hc1
      have hcm : c * y ≤ 6 * 6 := Nat.mul_le_mul (Nat.le_trans hc1.1 hf1) hcc
      have hcz : (c : Int) ≠ 0 := by omega
      have HQ := hid (quoK c (by omega) (Nat.le_trans hc1.1 hf1) y hcc)
      rw [show ((s + x : Nat) : Int) = (s : Int) + (x : Int) by omega] at HCh
      clear hc1 hc2 hf1
      go_wp2_with fail
      refine Calls.mono HCh.out ?_
      rintro e w2 ⟨rfl, rfl⟩
      have E3 := hid (show (c : Int) * (y : Int) = ((c * y : Nat) : Int) by push_cast; rfl)
      clear HCh
      have hq := HQ.out
      go_wp2
      go_roundw
      case rel => exact ⟨j + 1, by omega, by go_num, by rw [HD.out, ← E3.out], by rw [HS.out]; go_num, by first | rfl | trivial⟩
      case measure => simp [intOf]; omega
    · have hI : ¬ (j : Int) < (N.length : Int) := by omega
      obtain rfl : j = N.length := by omega
      go_wp2
      go_ret2
      exact ⟨rfl, rfl⟩
end Go.Proofs.Ytaiccmbhdgecgaa
