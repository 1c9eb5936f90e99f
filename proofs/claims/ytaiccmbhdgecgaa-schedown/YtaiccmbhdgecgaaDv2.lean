/-
  Div64 by a small divisor: what the walk meets.
-/
import Derived.Test.YtaiccmbhdgecgaaDv1
namespace Go.Proofs.Ytaiccmbhdgecgaa
open Go.RowKit
set_option maxRecDepth 100000

theorem or_lit (a b M s : Nat) (hM : M = 2 ^ s) (hb : b < M) (ha : a * M + b < 18446744073709551616) : bits .or .u64 ((a : Int) * (M : Int)) (b : Int) = ((a * M + b : Nat) : Int) := by
  subst hM
  rw [← Int.natCast_mul]
  exact or_join a b s hb ha
theorem dv_ints {y e d hi lo U A q r V q2 s : Nat} (h : DvF y e d hi lo U A q r V q2) (hs : e * 4294967296 = 2 ^ s) (hlo : lo < 18446744073709551616) (hye : y * e ≤ 4294967296) (hdm : 18446744073709551616 = d * (e * 4294967296)) :
    bits .or .u64 ((hi : Int) * ((e * 4294967296 : Nat) : Int)) ((lo : Int) / (d : Int)) = (U : Int) ∧
    IntKind.u64.wrap ((lo : Int) * ((e * 4294967296 : Nat) : Int)) = ((A * 4294967296 : Nat) : Int) ∧
    ((A * 4294967296 : Nat) : Int) / 4294967296 = (A : Int) ∧ bits .and .u64 ((A * 4294967296 : Nat) : Int) 4294967295 = 0 ∧
    IntKind.u64.wrap ((U : Int).tdiv ((y * e : Nat) : Int)) = (q : Int) ∧ IntKind.u64.wrap ((U : Int) - IntKind.u64.wrap ((q : Int) * ((y * e : Nat) : Int))) = (r : Int) := by
  obtain ⟨eU, eA, eq, er, eV, e2, bA, bq, bU, bV, b2, fin⟩ := h
  have hU : U / (y * e) = q := by
    rw [eq, Nat.mul_comm q, Nat.mul_add_div (by omega), Nat.div_eq_of_lt er, Nat.add_zero]
  have hP : q * (y * e) < 18446744073709551616 := by
    rw [eq] at bU
    exact Nat.lt_of_le_of_lt (Nat.le_add_right _ _) bU
  refine ⟨?_, ?_, ?_, ?_, ?_, ?_⟩
  · have := or_lit hi (lo / d) (e * 4294967296) s hs (Nat.div_lt_of_lt_mul (by rw [← hdm]; exact hlo)) (by rw [← eU]; exact bU)
    rw [← eU] at this
    exact this
  · rw [← Int.natCast_mul, IntKind.wrap_u64]
    have : lo * (e * 4294967296) % 18446744073709551616 = A * 4294967296 := by
      rw [hdm, Nat.mul_mod_mul_right, eA, Nat.mul_assoc]
    rw [← this]
    omega
  · omega
  · rw [and_low _ (by omega)]
    omega
  · rw [show (U : Int).tdiv ((y * e : Nat) : Int) = ((U / (y * e) : Nat) : Int) from rfl, hU]
    exact wr64 q (by omega)
  · rw [← Int.natCast_mul, wr64 _ hP, show (U : Int) = ((q * (y * e) + r : Nat) : Int) by rw [← eq]]
    exact wsub64 _ _ (by rw [← eq]; exact bU)
theorem dv_rest {y e d hi lo U A q r V q2 : Nat} (h : DvF y e d hi lo U A q r V q2) : IntKind.u64.wrap ((U : Int) - (q : Int) * ((y * e : Nat) : Int)) = (r : Int) := by
  rw [← Int.natCast_mul, show (U : Int) = ((q * (y * e) + r : Nat) : Int) by rw [← h.eq]]
  exact wsub64 _ _ (by rw [← h.eq]; exact h.bU)
theorem not_two32 (q : Nat) (h : q < 4294967296) : ¬ (4294967296 : Int) ≤ (q : Int) ∧ (q : Int) < 4294967296 ∧ decide ((4294967296 : Int) ≤ (q : Int)) = false := by
  refine ⟨by omega, by omega, ?_⟩
  simp
  omega
theorem mod_three (x a z : Int) : ((x % 18446744073709551616 + a) % 18446744073709551616 - z % 18446744073709551616) % 18446744073709551616 = (x + a - z) % 18446744073709551616 := by omega
theorem wrap_nat (z : Int) : ∃ n : Nat, IntKind.u64.wrap z = (n : Int) ∧ n < 18446744073709551616 := ⟨(IntKind.u64.wrap z).toNat, by rw [IntKind.wrap_u64]; omega, by rw [IntKind.wrap_u64]; omega⟩
/-- the lower half -/
theorem dv_low {y e d hi lo U A q r V q2 Z : Nat} (h : DvF y e d hi lo U A q r V q2) (hZ : Z = y * e * 4294967296) (hZ2 : Z ≤ 18446744073709551616) : ∃ X1 X2 X3 r2 : Nat, IntKind.u64.wrap ((U : Int) * 4294967296) = (X1 : Int) ∧ IntKind.u64.wrap ((X1 : Int) + (A : Int)) = (X2 : Int) ∧ IntKind.u64.wrap ((q : Int) * (Z : Int)) = (X3 : Int) ∧ IntKind.u64.wrap ((X2 : Int) - (X3 : Int)) = (V : Int) ∧
    (V : Int) / ((y * e : Nat) : Int) = (q2 : Int) ∧ IntKind.u64.wrap ((V : Int) - (q2 : Int) * ((y * e : Nat) : Int)) = (r2 : Int) ∧ r2 < y * e ∧ 4294967296 * (r : Int) + (A : Int) = (V : Int) ∧ V < 18446744073709551616 := by
  have hV : V < 18446744073709551616 := by have := h.bV; omega
  obtain ⟨X1, e1, _⟩ := wrap_nat ((U : Int) * 4294967296)
  obtain ⟨X2, e2, _⟩ := wrap_nat ((X1 : Int) + (A : Int))
  obtain ⟨X3, e3, _⟩ := wrap_nat ((q : Int) * (Z : Int))
  have hY : 0 < y * e := Nat.lt_of_le_of_lt (Nat.zero_le _) h.er
  refine ⟨X1, X2, X3, V % (y * e), e1, e2, e3, ?_, ?_, ?_, Nat.mod_lt _ hY, ?_, hV⟩
  · rw [← e2, ← e1, ← e3, IntKind.wrap_u64, IntKind.wrap_u64, IntKind.wrap_u64, IntKind.wrap_u64, mod_three]
    have hz : (U : Int) * 4294967296 + (A : Int) - (q : Int) * (Z : Int) = (V : Int) := by
      have e4 : U * 4294967296 = q * Z + r * 4294967296 := by rw [hZ, ← Nat.mul_assoc, ← Nat.add_mul, ← h.eq]
      have e5 := h.eV
      rw [← Int.natCast_mul]
      generalize q * Z = P at *
      omega
    rw [hz]
    omega
  · rw [h.e2]
    rfl
  · rw [← Int.natCast_mul]
    have e4 : V = q2 * (y * e) + V % (y * e) := by rw [h.e2, Nat.mul_comm]; exact (Nat.div_add_mod V (y * e)).symm
    generalize V % (y * e) = r2 at *
    generalize q2 * (y * e) = P at *
    rw [show (V : Int) - (P : Int) = (r2 : Int) by omega]
    exact wr64 r2 (by omega)
  · have e5 := h.eV
    omega
theorem neg_no (n : Nat) : decide ((n : Int) < 0) = false ∧ decide (4294967296 * (n : Int) < 0) = false ∧ ¬ (n : Int) < 0 ∧ ¬ 4294967296 * (n : Int) < 0 := by
  refine ⟨decide_eq_false (by omega), decide_eq_false (by omega), by omega, by omega⟩
end Go.Proofs.Ytaiccmbhdgecgaa
