/-
  plan: the document's Point. Laid by mkfp3.py.
-/
import Derived.Test.YtgnnopjkbmbjbabFp2
namespace Go.Proofs.Ytgnnopjkbmbjbab
open Go.RowKit
set_option maxRecDepth 100000
set_option linter.unusedSimpArgs false

/-- three ways of a test -/
theorem up_ways (b most : Nat) : ((FloatKind.f64.format.order b 0 == some .gt || FloatKind.f64.format.order b 0 == some .eq) = false ∧ upB b most = false) ∨ ((FloatKind.f64.format.order b 0 == some .gt || FloatKind.f64.format.order b 0 == some .eq) = true ∧ (FloatKind.f64.format.order b most == some .lt || FloatKind.f64.format.order b most == some .eq) = false ∧ upB b most = false) ∨ ((FloatKind.f64.format.order b 0 == some .gt || FloatKind.f64.format.order b 0 == some .eq) = true ∧ (FloatKind.f64.format.order b most == some .lt || FloatKind.f64.format.order b most == some .eq) = true ∧ upB b most = true) := by
  have e : upB b most = ((FloatKind.f64.format.order b 0 == some .gt || FloatKind.f64.format.order b 0 == some .eq) && (FloatKind.f64.format.order b most == some .lt || FloatKind.f64.format.order b most == some .eq)) := rfl
  rw [e]
  cases (FloatKind.f64.format.order b 0 == some .gt || FloatKind.f64.format.order b 0 == some .eq) <;> cases (FloatKind.f64.format.order b most == some .lt || FloatKind.f64.format.order b most == some .eq) <;> simp
set_option maxHeartbeats 8000000 in
theorem rpoint_any (M D Z : Nat) (L : Int) (w : World) : Calls Try.prog 8 #[.agg #[.float .f64 M, .float .f64 D, .float .f64 Z, .int .i64 L]] w fun e w' => PtE M D Z L e ∧ Below w.heap.size w w' := by
  have B := hid (alloc_below w (.cells #[.float .f64 M, .float .f64 D, .float .f64 Z, .int .i64 L] 24))
  have NO := hid (fun (h : (upB M 4741671816366391296 && (upB D 4741671816366391296 && (upB Z 4621819117588971520 && (decide (0 ≤ L) && decide (L ≤ 1000))))) = false) => show PtE M D Z L (.returned (.tuple #[.int .i64 0, .int .i64 172])) from ⟨0, 172, rfl, .inl ⟨h, rfl, rfl⟩⟩)
  rcases up_ways M 4741671816366391296 with ⟨m1, uM⟩ | ⟨m1, m2, uM⟩ | ⟨m1, m2, uM⟩ <;> rcases up_ways D 4741671816366391296 with ⟨d1, uD⟩ | ⟨d1, d2, uD⟩ | ⟨d1, d2, uD⟩ <;> rcases up_ways Z 4621819117588971520 with ⟨z1, uZ⟩ | ⟨z1, z2, uZ⟩ | ⟨z1, z2, uZ⟩
  · have NN2 := hid (NO.out (by simp [uM, uD, uZ]))
    clear uM uD uZ NO
    go_enter Try.func8, Try.ntmps8
    go_wp2
    go_ret2
    exact ⟨NN2.out, B.out⟩
  · have NN2 := hid (NO.out (by simp [uM, uD, uZ]))
    clear uM uD uZ NO
    go_enter Try.func8, Try.ntmps8
    go_wp2
    go_ret2
    exact ⟨NN2.out, B.out⟩
  · have NN2 := hid (NO.out (by simp [uM, uD, uZ]))
    clear uM uD uZ NO
    go_enter Try.func8, Try.ntmps8
    go_wp2
    go_ret2
    exact ⟨NN2.out, B.out⟩
  · have NN2 := hid (NO.out (by simp [uM, uD, uZ]))
    clear uM uD uZ NO
    go_enter Try.func8, Try.ntmps8
    go_wp2
    go_ret2
    exact ⟨NN2.out, B.out⟩
  · have NN2 := hid (NO.out (by simp [uM, uD, uZ]))
    clear uM uD uZ NO
    go_enter Try.func8, Try.ntmps8
    go_wp2
    go_ret2
    exact ⟨NN2.out, B.out⟩
  · have NN2 := hid (NO.out (by simp [uM, uD, uZ]))
    clear uM uD uZ NO
    go_enter Try.func8, Try.ntmps8
    go_wp2
    go_ret2
    exact ⟨NN2.out, B.out⟩
  · have NN2 := hid (NO.out (by simp [uM, uD, uZ]))
    clear uM uD uZ NO
    go_enter Try.func8, Try.ntmps8
    go_wp2
    go_ret2
    exact ⟨NN2.out, B.out⟩
  · have NN2 := hid (NO.out (by simp [uM, uD, uZ]))
    clear uM uD uZ NO
    go_enter Try.func8, Try.ntmps8
    go_wp2
    go_ret2
    exact ⟨NN2.out, B.out⟩
  · have NN2 := hid (NO.out (by simp [uM, uD, uZ]))
    clear uM uD uZ NO
    go_enter Try.func8, Try.ntmps8
    go_wp2
    go_ret2
    exact ⟨NN2.out, B.out⟩
  · have NN2 := hid (NO.out (by simp [uM, uD, uZ]))
    clear uM uD uZ NO
    go_enter Try.func8, Try.ntmps8
    go_wp2
    go_ret2
    exact ⟨NN2.out, B.out⟩
  · have NN2 := hid (NO.out (by simp [uM, uD, uZ]))
    clear uM uD uZ NO
    go_enter Try.func8, Try.ntmps8
    go_wp2
    go_ret2
    exact ⟨NN2.out, B.out⟩
  · have NN2 := hid (NO.out (by simp [uM, uD, uZ]))
    clear uM uD uZ NO
    go_enter Try.func8, Try.ntmps8
    go_wp2
    go_ret2
    exact ⟨NN2.out, B.out⟩
  · have NN2 := hid (NO.out (by simp [uM, uD, uZ]))
    clear uM uD uZ NO
    go_enter Try.func8, Try.ntmps8
    go_wp2
    go_ret2
    exact ⟨NN2.out, B.out⟩
  · have NN2 := hid (NO.out (by simp [uM, uD, uZ]))
    clear uM uD uZ NO
    go_enter Try.func8, Try.ntmps8
    go_wp2
    go_ret2
    exact ⟨NN2.out, B.out⟩
  · have NN2 := hid (NO.out (by simp [uM, uD, uZ]))
    clear uM uD uZ NO
    go_enter Try.func8, Try.ntmps8
    go_wp2
    go_ret2
    exact ⟨NN2.out, B.out⟩
  · have NN2 := hid (NO.out (by simp [uM, uD, uZ]))
    clear uM uD uZ NO
    go_enter Try.func8, Try.ntmps8
    go_wp2
    go_ret2
    exact ⟨NN2.out, B.out⟩
  · have NN2 := hid (NO.out (by simp [uM, uD, uZ]))
    clear uM uD uZ NO
    go_enter Try.func8, Try.ntmps8
    go_wp2
    go_ret2
    exact ⟨NN2.out, B.out⟩
  · have NN2 := hid (NO.out (by simp [uM, uD, uZ]))
    clear uM uD uZ NO
    go_enter Try.func8, Try.ntmps8
    go_wp2
    go_ret2
    exact ⟨NN2.out, B.out⟩
  · have NN2 := hid (NO.out (by simp [uM, uD, uZ]))
    clear uM uD uZ NO
    go_enter Try.func8, Try.ntmps8
    go_wp2
    go_ret2
    exact ⟨NN2.out, B.out⟩
  · have NN2 := hid (NO.out (by simp [uM, uD, uZ]))
    clear uM uD uZ NO
    go_enter Try.func8, Try.ntmps8
    go_wp2
    go_ret2
    exact ⟨NN2.out, B.out⟩
  · have NN2 := hid (NO.out (by simp [uM, uD, uZ]))
    clear uM uD uZ NO
    go_enter Try.func8, Try.ntmps8
    go_wp2
    go_ret2
    exact ⟨NN2.out, B.out⟩
  · have NN2 := hid (NO.out (by simp [uM, uD, uZ]))
    clear uM uD uZ NO
    go_enter Try.func8, Try.ntmps8
    go_wp2
    go_ret2
    exact ⟨NN2.out, B.out⟩
  · have NN2 := hid (NO.out (by simp [uM, uD, uZ]))
    clear uM uD uZ NO
    go_enter Try.func8, Try.ntmps8
    go_wp2
    go_ret2
    exact ⟨NN2.out, B.out⟩
  · have NN2 := hid (NO.out (by simp [uM, uD, uZ]))
    clear uM uD uZ NO
    go_enter Try.func8, Try.ntmps8
    go_wp2
    go_ret2
    exact ⟨NN2.out, B.out⟩
  · have NN2 := hid (NO.out (by simp [uM, uD, uZ]))
    clear uM uD uZ NO
    go_enter Try.func8, Try.ntmps8
    go_wp2
    go_ret2
    exact ⟨NN2.out, B.out⟩
  · have NN2 := hid (NO.out (by simp [uM, uD, uZ]))
    clear uM uD uZ NO
    go_enter Try.func8, Try.ntmps8
    go_wp2
    go_ret2
    exact ⟨NN2.out, B.out⟩
  · by_cases l1 : L < 0
    · have NN2 := hid (NO.out (by rw [decide_eq_false (p := 0 ≤ L) (by omega)]; simp))
      clear uM uD uZ NO
      go_enter Try.func8, Try.ntmps8
      go_wp2
      go_ret2
      exact ⟨NN2.out, B.out⟩
    by_cases l2 : 1000 < L
    · have NN2 := hid (NO.out (by rw [decide_eq_false (p := L ≤ 1000) (by omega)]; simp))
      clear uM uD uZ NO
      go_enter Try.func8, Try.ntmps8
      go_wp2
      go_ret2
      exact ⟨NN2.out, B.out⟩
    obtain ⟨n, rfl⟩ := Int.eq_ofNat_of_zero_le (show 0 ≤ L by omega)
    obtain ⟨x, y, q, y2, z, hZ, hN⟩ := zed_there uM uD uZ (show n ≤ 1000 by omega)
    obtain ⟨s, v, hv, hs, hle⟩ := hN
    have hle2 : v ≤ 9007199254740990 * U := Nat.le_trans hle (Nat.mul_le_mul_right _ (by omega))
    have YES := hid (show PtE M D Z (n : Int) (.returned (.tuple #[.int .i64 ((cei v : Nat) : Int), .int .i64 0])) from ⟨_, 0, rfl, .inr ⟨n, x, y, q, y2, z, s, v, rfl, by omega, by rw [uM, uD, uZ, decide_eq_true (p := (0 : Int) ≤ (n : Int)) (by omega), decide_eq_true (p := (n : Int) ≤ 1000) (by omega)]; rfl, hZ, hv, rfl, rfl⟩⟩)
    have a1 := fun w => run_float_arith (P := Try.prog) w .mul 22 .f64 _ _ _ hZ.hx
    have a2 := fun w => run_float_arith (P := Try.prog) w .mul 22 .f64 _ _ _ hZ.hy
    have a3 := fun w => run_float_arith (P := Try.prog) w .mul 22 .f64 _ _ _ hZ.h2
    have a4 := fun w => run_float_arith (P := Try.prog) w .add 22 .f64 _ _ _ hZ.hz
    have SQ := hid (fun wx => sqrt_any hZ.hq wx)
    have CV := fun w => run_convert_float_int (P := Try.prog) w 22 3 .f64 .i64 _ _ (by kernel_rfl) Try.underlying3 (int_of hv hs hle2)
    have hq : v / U ≤ 1640000000000 := Nat.div_le_of_le_mul (by rw [Nat.mul_comm]; exact hle)
    have hkf := int_FV (v / U) (by omega)
    have hord : (FloatKind.f64.format.order (floatOfInt .f64 ((v / U : Nat) : Int)) z == some .lt) = (v % U != 0) := by
      rw [show FloatKind.f64.format.order (floatOfInt .f64 ((v / U : Nat) : Int)) z = _ from order_FV hkf hv]
      have hdm := Nat.div_add_mod v U
      have e1 : sg s v = (v : Int) := by
        unfold sg
        cases s
        · rfl
        · rw [hs rfl]; rfl
      have e2 : sg false (v / U * U) = ((v / U * U : Nat) : Int) := rfl
      rw [e1, e2]
      rw [Nat.mul_comm] at hdm
      generalize v / U * U = p at *
      by_cases h0 : v % U = 0
      · rw [h0]
        have : p = v := by omega
        rw [this]
        simp
      · rw [bne_iff_ne.2 h0, Int.compare_eq_lt.2 (by omega)]
        rfl
    clear hZ hv hs hle hle2 hkf uM uD uZ NO
    cases hr : (v % U != 0)
    · rw [hr] at hord
      have hce : cei v = v / U := by unfold cei; rw [hr]; rfl
      rw [hce] at YES
      clear hce hr
      generalize v / U = ce at *
      go_enter Try.func8, Try.ntmps8
      go_wp2_with fail
      refine Calls.mono (SQ.out _) ?_
      rintro e4 w4 ⟨rfl, rfl⟩
      go_wp2
      go_ret2
      exact ⟨YES.out, B.out⟩
    · rw [hr] at hord
      have hce : cei v = v / U + 1 := by unfold cei; rw [hr]; rfl
      rw [hce] at YES
      clear hce hr
      generalize v / U = ce at *
      go_enter Try.func8, Try.ntmps8
      go_wp2_with fail
      refine Calls.mono (SQ.out _) ?_
      rintro e4 w4 ⟨rfl, rfl⟩
      go_wp2
      go_ret2
      exact ⟨YES.out, B.out⟩
end Go.Proofs.Ytgnnopjkbmbjbab
