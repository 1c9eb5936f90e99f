/-
  plan: Point, the program's and the document's.
-/
import Derived.Test.YtgnnopjkbmbjbabFp1
namespace Go.Proofs.Ytgnnopjkbmbjbab
open Go.RowKit
set_option maxRecDepth 100000
set_option linter.unusedSimpArgs false

/-- what a Point hands out -/
def PtE (M D Z : Nat) (L : Int) (e : Ending) : Prop := ∃ k er : Int, e = .returned (.tuple #[.int .i64 k, .int .i64 er]) ∧ PtA M D Z L k er
set_option maxHeartbeats 4000000 in
theorem point_any (M D Z : Nat) (L : Int) (w : World) : Calls Try.prog 7 #[.agg #[.float .f64 M, .float .f64 D, .float .f64 Z, .int .i64 L]] w fun e w' => PtE M D Z L e ∧ Below w.heap.size w w' := by
  have U1 := hid (fun wx => upTo_any M 4741671816366391296 wx)
  have U2 := hid (fun wx => upTo_any D 4741671816366391296 wx)
  have U3 := hid (fun wx => upTo_any Z 4621819117588971520 wx)
  have B := hid (alloc_below w (.cells #[.float .f64 M, .float .f64 D, .float .f64 Z, .int .i64 L] 24))
  have NO := hid (fun (h : (upB M 4741671816366391296 && (upB D 4741671816366391296 && (upB Z 4621819117588971520 && (decide (0 ≤ L) && decide (L ≤ 1000))))) = false) => show PtE M D Z L (.returned (.tuple #[.int .i64 0, .int .i64 172])) from ⟨0, 172, rfl, .inl ⟨h, rfl, rfl⟩⟩)
  cases q1 : upB M 4741671816366391296
  · have NN2 := hid (NO.out (by simp [q1]))
    go_enter Try.func7, Try.ntmps7
    go_wp2_with fail
    refine Calls.mono (U1.out _) ?_
    rintro e0 w0 ⟨rfl, rfl⟩
    rw [q1]
    go_wp2
    go_ret2
    exact ⟨NN2.out, B.out⟩
  cases q2 : upB D 4741671816366391296
  · have NN2 := hid (NO.out (by simp [q1, q2]))
    go_enter Try.func7, Try.ntmps7
    go_wp2_with fail
    refine Calls.mono (U1.out _) ?_
    rintro e0 w0 ⟨rfl, rfl⟩
    rw [q1]
    go_wp2_with fail
    refine Calls.mono (U2.out _) ?_
    rintro e1 w1 ⟨rfl, rfl⟩
    rw [q2]
    go_wp2
    go_ret2
    exact ⟨NN2.out, B.out⟩
  cases q3 : upB Z 4621819117588971520
  · have NN2 := hid (NO.out (by simp [q1, q2, q3]))
    go_enter Try.func7, Try.ntmps7
    go_wp2_with fail
    refine Calls.mono (U1.out _) ?_
    rintro e0 w0 ⟨rfl, rfl⟩
    rw [q1]
    go_wp2_with fail
    refine Calls.mono (U2.out _) ?_
    rintro e1 w1 ⟨rfl, rfl⟩
    rw [q2]
    go_wp2_with fail
    refine Calls.mono (U3.out _) ?_
    rintro e2 w2 ⟨rfl, rfl⟩
    rw [q3]
    go_wp2
    go_ret2
    exact ⟨NN2.out, B.out⟩
  by_cases l1 : L < 0
  · have NN2 := hid (NO.out (by rw [decide_eq_false (p := 0 ≤ L) (by omega)]; simp))
    go_enter Try.func7, Try.ntmps7
    go_wp2_with fail
    refine Calls.mono (U1.out _) ?_
    rintro e0 w0 ⟨rfl, rfl⟩
    rw [q1]
    go_wp2_with fail
    refine Calls.mono (U2.out _) ?_
    rintro e1 w1 ⟨rfl, rfl⟩
    rw [q2]
    go_wp2_with fail
    refine Calls.mono (U3.out _) ?_
    rintro e2 w2 ⟨rfl, rfl⟩
    rw [q3]
    go_wp2
    go_ret2
    exact ⟨NN2.out, B.out⟩
  by_cases l2 : 1000 < L
  · have NN2 := hid (NO.out (by rw [decide_eq_false (p := L ≤ 1000) (by omega)]; simp))
    go_enter Try.func7, Try.ntmps7
    go_wp2_with fail
    refine Calls.mono (U1.out _) ?_
    rintro e0 w0 ⟨rfl, rfl⟩
    rw [q1]
    go_wp2_with fail
    refine Calls.mono (U2.out _) ?_
    rintro e1 w1 ⟨rfl, rfl⟩
    rw [q2]
    go_wp2_with fail
    refine Calls.mono (U3.out _) ?_
    rintro e2 w2 ⟨rfl, rfl⟩
    rw [q3]
    go_wp2
    go_ret2
    exact ⟨NN2.out, B.out⟩
  obtain ⟨n, rfl⟩ := Int.eq_ofNat_of_zero_le (show 0 ≤ L by omega)
  obtain ⟨x, y, q, y2, z, hZ, hN⟩ := zed_there q1 q2 q3 (show n ≤ 1000 by omega)
  obtain ⟨s, v, hv, hs, hle⟩ := hN
  have hle2 : v ≤ 9007199254740990 * U := Nat.le_trans hle (Nat.mul_le_mul_right _ (by omega))
  have YES := hid (show PtE M D Z (n : Int) (.returned (.tuple #[.int .i64 ((cei v : Nat) : Int), .int .i64 0])) from ⟨_, 0, rfl, .inr ⟨n, x, y, q, y2, z, s, v, rfl, by omega, by rw [q1, q2, q3, decide_eq_true (p := (0 : Int) ≤ (n : Int)) (by omega), decide_eq_true (p := (n : Int) ≤ 1000) (by omega)]; rfl, hZ, hv, rfl, rfl⟩⟩)
  have DM := hid (fun wx => demand_any hZ wx)
  have CE := hid (fun wx => ceil_any hv wx)
  have hcv := ceil_of hv hs hle2
  have hci := cei_le hle
  have Hio := int_of hcv (fun h => by
    have := hs h
    subst this
    unfold cei
    simp) (Nat.mul_le_mul_right _ (by omega))
  rw [Nat.mul_div_cancel _ U_pos] at Hio
  have CV := fun w => run_convert_float_int (P := Try.prog) w 22 3 .f64 .i64 _ _ (by kernel_rfl) Try.underlying3 Hio
  generalize dbl.write ((rdF z).integral .up) = cz at *
  generalize cei v = ce at *
  clear hZ hv hs hle hle2 hcv hci Hio NO
  go_enter Try.func7, Try.ntmps7
  go_wp2_with fail
  refine Calls.mono (U1.out _) ?_
  rintro e0 w0 ⟨rfl, rfl⟩
  rw [q1]
  go_wp2_with fail
  refine Calls.mono (U2.out _) ?_
  rintro e1 w1 ⟨rfl, rfl⟩
  rw [q2]
  go_wp2_with fail
  refine Calls.mono (U3.out _) ?_
  rintro e2 w2 ⟨rfl, rfl⟩
  rw [q3]
  go_wp2_with fail
  refine Calls.mono (DM.out _) ?_
  rintro e3 w3 ⟨rfl, s3⟩
  have B3 := hid (bel_step B.out s3)
  clear s3
  go_wp2_with fail
  refine Calls.mono (CE.out _) ?_
  rintro e4 w4 ⟨rfl, rfl⟩
  go_wp2
  go_ret2
  exact ⟨YES.out, B3.out⟩
end Go.Proofs.Ytgnnopjkbmbjbab
