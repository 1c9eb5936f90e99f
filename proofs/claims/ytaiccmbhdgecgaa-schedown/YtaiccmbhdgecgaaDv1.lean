/-
  Div64 by a small divisor, the upper half below it.
-/
import Derived.Test.YtaiccmbhdgecgaaSc1
import Derived.Test.YtaiccmbhdgecgaaShelf
import Derived.Deep.QuietTactic
import Derived.BigQuiet
import Derived.Laws.Bits64b
namespace Go.Proofs.Ytaiccmbhdgecgaa
open Go.RowKit
set_option maxRecDepth 100000

theorem or_join (a b s : Nat) (hb : b < 2 ^ s) (ha : a * 2 ^ s + b < 18446744073709551616) : bits .or .u64 ((a * 2 ^ s : Nat) : Int) (b : Int) = ((a * 2 ^ s + b : Nat) : Int) := by
  rw [bits_or_u64_nat _ _ (by omega) (by omega)]
  have h := Nat.shiftLeft_add_eq_or_of_lt hb a
  rw [Nat.shiftLeft_eq] at h
  rw [h]
theorem and_low (x : Nat) (hx : x < 18446744073709551616) : bits .and .u64 (x : Int) 4294967295 = ((x % 4294967296 : Nat) : Int) := by
  have h := bits_and_u64_nat x 4294967295 hx (by decide)
  rw [show (4294967295 : Nat) = 2 ^ 32 - 1 from rfl, Nat.and_two_pow_sub_one_eq_mod] at h
  exact h
theorem wr64 (x : Nat) (h : x < 18446744073709551616) : IntKind.u64.wrap (x : Int) = (x : Int) := by rw [IntKind.wrap_u64]; omega
theorem wsub64 (P r : Nat) (h : P + r < 18446744073709551616) : IntKind.u64.wrap (((P + r : Nat) : Int) - (P : Int)) = (r : Int) := by
  rw [show ((P + r : Nat) : Int) - (P : Int) = (r : Int) by omega]
  exact wr64 r (by omega)
/-- the two halves of a quotient -/
structure DvF (y e d hi lo U A q r V q2 : Nat) : Prop where
  eU : U = hi * (e * 4294967296) + lo / d
  eA : A = lo % d * e
  eq : U = q * (y * e) + r
  er : r < y * e
  eV : V = r * 4294967296 + A
  e2 : q2 = V / (y * e)
  bA : A < 4294967296
  bq : q < 4294967296
  bU : U < 18446744073709551616
  bV : V < y * e * 4294967296
  b2 : q2 < 4294967296
  fin : (hi * 18446744073709551616 + lo) / y = q * 4294967296 + q2
theorem lt_join (r Y A : Nat) (h : r < Y) (hA : A < 4294967296) : r * 4294967296 + A < Y * 4294967296 := by omega
theorem lt_half (U Y A : Nat) (h : U * 4294967296 + A < Y * 18446744073709551616) : U < Y * 4294967296 := by omega
theorem dv_facts (y e d hi lo : Nat) (he : e * d = 4294967296) (hye : y * e ≤ 4294967296) (hy : hi < y) (he0 : 0 < e) (hd0 : 0 < d) (hlo : lo < 18446744073709551616) : ∃ U A q r V q2, DvF y e d hi lo U A q r V q2 := by
  obtain ⟨Y, hY⟩ : ∃ Y, y * e = Y := ⟨_, rfl⟩
  have hY0 : 0 < Y := by rw [← hY]; exact Nat.mul_pos (by omega) he0
  obtain ⟨U, hU⟩ : ∃ U, U = hi * (e * 4294967296) + lo / d := ⟨_, rfl⟩
  obtain ⟨A, hA⟩ : ∃ A, A = lo % d * e := ⟨_, rfl⟩
  have hbA : A < 4294967296 := by
    rw [hA, ← he, Nat.mul_comm e d]
    exact Nat.mul_lt_mul_of_pos_right (Nat.mod_lt _ hd0) he0
  have key : U * 4294967296 + A = (hi * 18446744073709551616 + lo) * e := by
    have h1 : lo / d * 4294967296 + lo % d * e = lo * e := by
      have h3 : lo / d * (e * d) = lo / d * d * e := by rw [Nat.mul_comm e d, ← Nat.mul_assoc]
      have h4 : lo / d * d + lo % d = lo := by rw [Nat.mul_comm]; exact Nat.div_add_mod lo d
      rw [← he, h3, ← Nat.add_mul, h4]
    have h2 : hi * (e * 4294967296) * 4294967296 = hi * 18446744073709551616 * e := by
      rw [Nat.mul_assoc hi, Nat.mul_assoc e, Nat.mul_comm e, ← Nat.mul_assoc hi]
    rw [hU, hA, Nat.add_mul, h2, Nat.add_assoc, h1, ← Nat.add_mul]
  have hlt : U * 4294967296 + A < Y * 18446744073709551616 := by
    rw [key, ← hY, Nat.mul_assoc y, Nat.mul_comm e, ← Nat.mul_assoc y]
    exact Nat.mul_lt_mul_of_pos_right (by omega) he0
  have hq : U = U / Y * Y + U % Y := by rw [Nat.mul_comm]; exact (Nat.div_add_mod U Y).symm
  have hr := Nat.mod_lt U hY0
  have bU : U < Y * 4294967296 := lt_half _ _ _ hlt
  have bq : U / Y < 4294967296 := Nat.div_lt_of_lt_mul bU
  have bV : U % Y * 4294967296 + A < Y * 4294967296 := lt_join _ _ _ hr hbA
  refine ⟨U, A, U / Y, U % Y, U % Y * 4294967296 + A, (U % Y * 4294967296 + A) / Y, hU, hA, by rw [hY]; exact hq, by rw [hY]; exact hr, rfl, by rw [hY], hbA, bq, Nat.lt_of_lt_of_le bU (by rw [← hY]; omega), by rw [hY]; exact bV, Nat.div_lt_of_lt_mul bV, ?_⟩
  rw [← Nat.mul_div_mul_right (hi * 18446744073709551616 + lo) y he0, hY, ← key]
  have e1 : U * 4294967296 + A = Y * (U / Y * 4294967296) + (U % Y * 4294967296 + A) := by
    have : U * 4294967296 = (U / Y * Y + U % Y) * 4294967296 := by rw [← hq]
    rw [this, Nat.add_mul, Nat.mul_right_comm, Nat.mul_comm (U / Y * 4294967296) Y]
    omega
  rw [e1, Nat.mul_add_div hY0]
end Go.Proofs.Ytaiccmbhdgecgaa
