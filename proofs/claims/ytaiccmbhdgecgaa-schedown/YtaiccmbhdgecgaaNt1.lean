/-
  Steps of few picks: areSteps, chosen, sum, Count.
-/
import Derived.Test.YtaiccmbhdgecgaaSc1
namespace Go.Proofs.Ytaiccmbhdgecgaa
open Go.RowKit
set_option maxRecDepth 100000

/-- chosen, as it is reckoned -/
def chs (p n : Nat) : Nat → Nat
  | 0 => 1
  | i + 1 => chs p n i * (p - n + (i + 1)) / (i + 1)
theorem chs_le (p n i : Nat) (hp : p ≤ 3) (hn : n ≤ p) (hi : i ≤ n) : chs p n i ≤ 6 := by
  have key : ∀ p, p < 4 → ∀ n, n < 4 → ∀ i, i < 4 → n ≤ p → i ≤ n → chs p n i ≤ 6 := by decide
  exact key p (by omega) n (by omega) i (by omega) hn hi
set_option maxHeartbeats 400000 in
theorem chosen_any (p n : Nat) (w : World) (hp : p ≤ 3) (hn : n ≤ p) :
    Calls Try.prog 32 #[.int .i64 (p : Int), .int .i64 (n : Int)] w fun e w' => e = .returned (.int .i64 (chs p n n : Int)) ∧ w' = w := by
  go_enter Try.func32, Try.ntmps32
  go_wp2_with fail
  go_loopw [5, 6] (fun vc vi wx => ∃ i : Nat, i ≤ n ∧ vi = .int .i64 ((i : Int) + 1) ∧ vc = .int .i64 (chs p n i : Int) ∧ wx = w) (fun _ vi _ => n + 1 - (intOf vi).toNat)
  case atStart => exact ⟨0, Nat.zero_le _, rfl, rfl, rfl⟩
  case round =>
    obtain ⟨i, hi, rfl, rfl, rfl⟩ := hrel
    have hc := chs_le p n i hp hn hi
    by_cases h : i < n
    · have hI : (i : Int) + 1 ≤ (n : Int) := by omega
      have HV := hid (show chs p n (i + 1) = chs p n i * (p - n + (i + 1)) / (i + 1) from rfl)
      generalize chs p n i = c at *
      have hm : c * (p - n + (i + 1)) ≤ 6 * 4 := Nat.mul_le_mul hc (by omega)
      have hz : ((i : Int) + 1) ≠ 0 := by omega
      have e1 : (c : Int) * ((p : Int) - (n : Int) + ((i : Int) + 1)) = ((c * (p - n + (i + 1)) : Nat) : Int) := by push_cast; rw [show ((p - n : Nat) : Int) = (p : Int) - (n : Int) by omega]
      have e2 : (((c * (p - n + (i + 1)) : Nat) : Int)).tdiv ((i : Int) + 1) = ((c * (p - n + (i + 1)) / (i + 1) : Nat) : Int) := by
        rw [show ((i : Int) + 1) = ((i + 1 : Nat) : Int) by omega]
        rfl
      have hq : c * (p - n + (i + 1)) / (i + 1) ≤ 24 := Nat.le_trans (Nat.div_le_self _ _) hm
      go_wp2
      go_roundw
      case rel =>
        refine ⟨i + 1, by omega, by go_num, ?_, by first | rfl | trivial⟩
        rw [HV.out]
        rw [show ((p - n : Nat) : Int) = (p : Int) - (n : Int) by omega, e1]
        generalize c * (p - n + (i + 1)) = z at *
        rw [show wrap64 (z : Int) = (z : Int) by unfold wrap64; omega, e2]
        generalize z / (i + 1) = y at *
        rw [show wrap64 (y : Int) = (y : Int) by unfold wrap64; omega]
      case measure => simp [intOf]; omega
    · have hI : ¬ (i : Int) + 1 ≤ (n : Int) := by omega
      obtain rfl : i = n := by omega
      go_wp2
      go_ret
      exact ⟨rfl, rfl⟩
/-- numbers as ints -/
def iN (N : List Nat) : List Int := N.map fun (x : Nat) => (x : Int)
theorem iN_len (N : List Nat) : (iN N).length = N.length := by simp [iN]
theorem iN_at (N : List Nat) (i : Nat) (h : i < (iN N).length) (h2 : i < N.length) : (iN N)[i] = ((N[i] : Nat) : Int) := by simp [iN]
/-- the first j together -/
def sN (N : List Nat) : Nat → Nat
  | 0 => 0
  | j + 1 => sN N j + N.getD j 0
theorem sN_mono (N : List Nat) : ∀ {i j : Nat}, i ≤ j → sN N i ≤ sN N j := by
  intro i j h
  induction h with
  | refl => exact Nat.le_refl _
  | step _ ih => exact Nat.le_trans ih (Nat.le_add_right _ _)
theorem gN (N : List Nat) (j : Nat) (h : j < N.length) : N.getD j 0 = N[j] := by rw [List.getD_eq_getElem?_getD, List.getElem?_eq_getElem h]; rfl
set_option maxHeartbeats 400000 in
theorem sumOf_any (v : Value) (N : List Nat) (w : World) (hr : RI w v (iN N)) (hs : sN N N.length ≤ 24) (hl : N.length ≤ 16) :
    Calls Try.prog 34 #[v] w fun e w' => e = .returned (.int .i64 (sN N N.length : Int)) ∧ w' = w := by
  obtain ⟨ao, cap, rfl, hc, hn0, hcell⟩ := hr
  rw [iN_len] at hc
  have HC := hid hcell
  clear hcell hn0
  rw [iN_len]
  go_enter Try.func34, Try.ntmps34
  go_wp2_with fail
  go_loopw [3, 5, 8] (fun vs _ vi wx => ∃ j : Nat, j ≤ N.length ∧ vi = .int .i64 (j : Int) ∧ vs = .int .i64 (sN N j : Int) ∧ wx = w) (fun _ _ vi _ => N.length - (intOf vi).toNat)
  case atStart => exact ⟨0, Nat.zero_le _, rfl, rfl, rfl⟩
  case round =>
    obtain ⟨j, hj, rfl, rfl, rfl⟩ := hrel
    by_cases h : j < N.length
    · have hI : (j : Int) < (N.length : Int) := by omega
      obtain ⟨g, off, hao, c0⟩ := HC.out j (by rw [iN_len]; exact h)
      subst hao
      rw [iN_at N j _ h] at c0
      have HS := hid (show sN N (j + 1) = sN N j + N[j] by rw [← gN N j h]; rfl)
      have hm := sN_mono N (show j + 1 ≤ N.length by omega)
      rw [HS.out] at hm
      generalize N[j] = x at c0 HS hm
      generalize sN N j = s at HS hm
      go_wp2
      go_roundw
      case rel => exact ⟨j + 1, by omega, by go_num, by rw [HS.out]; go_num, by first | rfl | trivial⟩
      case measure => simp [intOf]; omega
    · have hI : ¬ (j : Int) < (N.length : Int) := by omega
      obtain rfl : j = N.length := by omega
      go_wp2
      go_ret
      exact ⟨rfl, rfl⟩
set_option maxHeartbeats 400000 in
theorem areSteps_any (v : Value) (N : List Nat) (w : World) (hr : RI w v (iN N)) (hs : sN N N.length ≤ 24) (h0 : 1 ≤ N.length) (hl : N.length ≤ 16) :
    Calls Try.prog 31 #[v] w fun e w' => e = .returned (.bool true) ∧ w' = w := by
  obtain ⟨ao, cap, rfl, hc, hn0, hcell⟩ := hr
  rw [iN_len] at hc
  have HC := hid hcell
  have HK := hid (isCount_any (N.length : Int) w)
  rw [(okN_iff _).2 (show (1 : Int) ≤ (N.length : Int) ∧ (N.length : Int) ≤ 16 by omega)] at HK
  clear hcell hn0
  rw [iN_len]
  go_enter Try.func31, Try.ntmps31
  go_wp2_with fail
  refine Calls.mono HK.out ?_
  rintro e w1 ⟨rfl, rfl⟩
  clear HK
  go_wp2_with fail
  go_loopw [3, 5, 12] (fun vs _ vi wx => ∃ j : Nat, j ≤ N.length ∧ vi = .int .i64 (j : Int) ∧ vs = .int .i64 (24 - (sN N j : Int)) ∧ wx = w1) (fun _ _ vi _ => N.length - (intOf vi).toNat)
  case atStart => exact ⟨0, Nat.zero_le _, rfl, rfl, rfl⟩
  case round =>
    obtain ⟨j, hj, rfl, rfl, rfl⟩ := hrel
    by_cases h : j < N.length
    · have hI : (j : Int) < (N.length : Int) := by omega
      obtain ⟨g, off, hao, c0⟩ := HC.out j (by rw [iN_len]; exact h)
      subst hao
      rw [iN_at N j _ h] at c0
      have HS := hid (show sN N (j + 1) = sN N j + N[j] by rw [← gN N j h]; rfl)
      have hm := sN_mono N (show j + 1 ≤ N.length by omega)
      rw [HS.out] at hm
      generalize N[j] = x at c0 HS hm
      generalize sN N j = s at HS hm
      have d1 : ¬ (x : Int) < 0 := by omega
      have d2 : ¬ (24 - (s : Int)) < (x : Int) := by omega
      go_wp2
      go_roundw
      case rel => exact ⟨j + 1, by omega, by go_num, by rw [HS.out]; go_num, by first | rfl | trivial⟩
      case measure => simp [intOf]; omega
    · have hI : ¬ (j : Int) < (N.length : Int) := by omega
      go_wp2
      go_ret
      exact ⟨rfl, rfl⟩
/-- how many mixes the first j have -/
def cN (N : List Nat) : Nat → Nat
  | 0 => 1
  | j + 1 => cN N j * chs (sN N (j + 1)) (N.getD j 0) (N.getD j 0)
def f4 : Nat → Nat
  | 0 => 1
  | 1 => 1
  | 2 => 2
  | _ => 6
theorem cN_le (N : List Nat) : ∀ j, sN N j ≤ 3 → cN N j ≤ f4 (sN N j) ∧ 1 ≤ cN N j
  | 0, _ => ⟨Nat.le_refl _, Nat.le_refl _⟩
  | j + 1, h => by
    have e : sN N (j + 1) = sN N j + N.getD j 0 := rfl
    obtain ⟨i1, i2⟩ := cN_le N j (by omega)
    have key : ∀ s, s < 4 → ∀ x, x < 4 → s + x < 4 → f4 s * chs (s + x) x x ≤ f4 (s + x) ∧ 1 ≤ chs (s + x) x x := by decide
    unfold cN
    rw [e]
    have k := key (sN N j) (by omega) (N.getD j 0) (by omega) (by omega)
    exact ⟨Nat.le_trans (Nat.mul_le_mul_right _ i1) k.1, Nat.le_trans i2 (Nat.le_mul_of_pos_right _ k.2)⟩
theorem f4_le (n : Nat) : f4 n ≤ 6 := by
  match n with
  | 0 => decide
  | 1 => decide
  | 2 => decide
  | n + 3 => exact Nat.le_refl _
end Go.Proofs.Ytaiccmbhdgecgaa
