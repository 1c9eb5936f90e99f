/-
  plan: isFinite, the document's finite.
-/
import Derived.Test.YtgnnopjkbmbjbaaFl1
import Derived.Laws.Externs
import Derived.Laws.BitsAllLaws
namespace Go.Proofs.Ytgnnopjkbmbjbaa
open Go.RowKit
set_option maxRecDepth 100000
set_option linter.unusedSimpArgs false

theorem isNaN_any (b : Nat) (w : World) : Calls Try.prog 38 #[.float .f64 b] w fun e w' => e = .returned (.bool (nanB b)) ∧ w' = w := by
  have h : (FloatKind.f64.format.order b b != some .eq) = nanB b := by
    cases hn : nanB b
    · rw [show FloatKind.f64.format.order b b = some .eq from order_self hn]; rfl
    · rw [show FloatKind.f64.format.order b b = none from order_nan hn b]; rfl
  have HH := hid h
  clear h
  go_enter Try.func38, Try.ntmps38
  go_wp2
  go_ret
  exact ⟨by rw [← HH.out]; rfl, rfl⟩
theorem run_f64bits (b : Nat) (w : World) : (callFunc 45 #[.float .f64 b]).run Try.prog w = .ok (.value (.int .u64 b)) w := by
  rw [run_callFunc_extern (e := Extern.MathFloatBits.float64bits) Try.func45 (by kernel_rfl) (by kernel_rfl) (by kernel_rfl) (by kernel_rfl)]
  rfl
theorem run_f64of (n : Nat) (w : World) : (callFunc 44 #[.int .u64 (n : Int)]).run Try.prog w = .ok (.value (.float .f64 n)) w := by
  rw [run_callFunc_extern (e := Extern.MathFloatBits.float64frombits) Try.func44 (by kernel_rfl) (by kernel_rfl) (by kernel_rfl) (by kernel_rfl)]
  rfl
theorem abs_any (b : Nat) (hb : b < 18446744073709551616) (w : World) : Calls Try.prog 43 #[.float .f64 b] w fun e w' => e = .returned (.float .f64 (b % 9223372036854775808)) ∧ w' = w := by
  have f1 := fun b w => run_f64bits b w
  have f2 := fun b w => run_f64of b w
  have e0 : b &&& (18446744073709551615 - 9223372036854775808) = b % 9223372036854775808 := Nat.and_two_pow_sub_one_eq_mod b 63
  have e1 := u64_andNot_nat b 9223372036854775808 hb (by omega)
  rw [e0] at e1
  replace e1 : bits .andNot .u64 (b : Int) 9223372036854775808 = ((b % 9223372036854775808 : Nat) : Int) := e1
  clear e0
  generalize b % 9223372036854775808 = r at *
  go_enter Try.func43, Try.ntmps43
  go_wp2
  go_ret
  exact ⟨rfl, rfl⟩
/-- beyond the greatest number is infinity alone -/
theorem abs_read (b : Nat) : rdF (b % 9223372036854775808) = match rdF b with | .number _ m e => .number false m e | .infinity _ => .infinity false | .nan _ t => .nan false t := by
  have hb : dbl.binade = 4503599627370496 := by decide +kernel
  have hi : dbl.infRung = 9218868437227405312 := by decide +kernel
  have hs : dbl.signWeight = 9223372036854775808 := by decide +kernel
  have e1 : (b % 9223372036854775808 / 9223372036854775808 % 2 == 1) = false := by rw [beq_eq_false_iff_ne]; omega
  unfold rdF Ieee.Format.read
  simp only [hs, hb, hi, Nat.mod_mod, e1]
  split
  · rfl
  · split
    · rfl
    · split <;> rfl
theorem max_read : rdF 9218868437227405311 = .number false 9007199254740991 971 := by decide +kernel
theorem inf_order {b : Nat} (h : nanB b = false) : (dbl.order (b % 9223372036854775808) 9218868437227405311 == some .gt) = !finB b := by
  show ((rdF (b % 9223372036854775808)).order (rdF 9218868437227405311) == some .gt) = !finB b
  rw [abs_read, max_read]
  unfold nanB at h
  unfold finB
  rcases rdF_cases b with ⟨s, m, e, h1, h2, h3, h4⟩ | ⟨s, h1⟩ | ⟨s, t, h1⟩
  · rw [h1]
    simp only [Ieee.Datum.order]
    show _ = false
    rw [beq_eq_false_iff_ne]
    · simp only [ne_eq, Option.some.injEq]
      rw [Int.compare_eq_gt]
      have e1 : min e 971 = e := by omega
      rw [e1]
      simp only [Ieee.signed, Int.sub_self]
      have : m <<< (0 : Int).toNat ≤ 9007199254740991 <<< (971 - e).toNat := by
        rw [Nat.shiftLeft_eq, Nat.shiftLeft_eq]
        have : 1 ≤ 2 ^ (971 - e).toNat := Nat.one_le_two_pow
        simp only [Int.toNat_zero, Nat.pow_zero, Nat.mul_one]
        exact Nat.le_trans (show m ≤ 9007199254740991 by omega) (Nat.le_mul_of_pos_right _ this)
      simp only [Bool.false_eq_true, if_false]
      omega
  · rw [h1]; rfl
  · rw [h1] at h; cases h
theorem isInf_any (b : Nat) (hb : b < 18446744073709551616) (hn : nanB b = false) (w : World) : Calls Try.prog 39 #[.float .f64 b, .int .i64 0] w fun e w' => e = .returned (.bool (!finB b)) ∧ w' = w := by
  have HA := hid (abs_any b hb w)
  have HI := hid (show (FloatKind.f64.format.order (b % 9223372036854775808) 9218868437227405311 == some .gt) = !finB b from inf_order hn)
  generalize b % 9223372036854775808 = r at *
  clear hb hn
  go_enter Try.func39, Try.ntmps39
  go_wp2_with fail
  refine Calls.mono HA.out ?_
  rintro e w' ⟨rfl, rfl⟩
  go_wp2
  go_ret
  exact ⟨by rw [← HI.out]; rfl, rfl⟩
theorem fin_nan {b : Nat} (h : nanB b = true) : finB b = false := by
  unfold nanB at h
  unfold finB
  rcases rdF_cases b with ⟨s, m, e, h1, _⟩ | ⟨s, h1⟩ | ⟨s, t, h1⟩
  · rw [h1] at h; cases h
  · rw [h1]
  · rw [h1]
theorem isFinite_any (b : Nat) (hb : b < 18446744073709551616) (w : World) : Calls Try.prog 26 #[.float .f64 b] w fun e w' => e = .returned (.bool (finB b)) ∧ w' = w := by
  have HN := hid (isNaN_any b w)
  cases hn : nanB b
  · have HI := hid (isInf_any b hb hn w)
    rw [hn] at HN
    clear hb hn
    go_enter Try.func26, Try.ntmps26
    go_wp2_with fail
    refine Calls.mono HN.out ?_
    rintro e w' ⟨rfl, rfl⟩
    go_wp2_with fail
    refine Calls.mono HI.out ?_
    rintro e w' ⟨rfl, rfl⟩
    go_wp2
    go_ret
    exact ⟨by simp, rfl⟩
  · have HF := hid (fin_nan hn)
    rw [hn] at HN
    clear hb hn
    go_enter Try.func26, Try.ntmps26
    go_wp2_with fail
    refine Calls.mono HN.out ?_
    rintro e w' ⟨rfl, rfl⟩
    go_wp2
    go_ret
    exact ⟨by rw [HF.out]; rfl, rfl⟩
/-- an invalid operation: some NaN -/
theorem run_sub_nan (t : TypeId) {x y : Nat} (h : dbl.sub x y = none) (w : World) : (binOp .sub t (.float .f64 x) (.float .f64 y)).run Try.prog w = .ok (.float .f64 ((Question.nanBits .f64 x y).cut (w.tape w.drawn (.nanBits .f64 x y)))) w.drew := by
  have h' : FloatKind.f64.format.sub x y = none := h
  simp [binOp, Op.floatArith, h', Question.forced]
theorem zero_read : rdF 0 = .number false 0 (-1074) := by decide +kernel
theorem finite_any (b : Nat) (w : World) : Calls Try.prog 28 #[.float .f64 b] w fun e w' => e = .returned (.bool (finB b)) ∧ Below w.heap.size w w' := by
  cases hf : finB b
  · have h1 := run_sub_nan 41 (sub_self_no hf) w
    have HN := hid (nan_cut b b (w.tape w.drawn (.nanBits .f64 b b)))
    generalize (Question.nanBits .f64 b b).cut (w.tape w.drawn (.nanBits .f64 b b)) = r at *
    have h2 : (FloatKind.f64.format.order r 0 == some .eq) = false := by rw [show FloatKind.f64.format.order r 0 = none from order_nan HN.out 0]; rfl
    clear hf
    go_enter Try.func28, Try.ntmps28
    go_wp2
    go_ret
    exact ⟨rfl, (Below.refl _ _).drew⟩
  · have h1 := fun w => run_float_arith (P := Try.prog) w .sub 41 .f64 b b 0 (sub_self hf)
    have h2 : (FloatKind.f64.format.order 0 0 == some .eq) = true := by decide +kernel
    clear hf
    go_enter Try.func28, Try.ntmps28
    go_wp2
    go_ret
    exact ⟨rfl, Below.refl _ _⟩
end Go.Proofs.Ytgnnopjkbmbjbaa
