/-
  How numbers are read: the contracts of both readers.
-/
import Derived.Test.YtghkfhbjfmdnmaaNums
namespace Go.Proofs.Ytghkfhbjfmdnmaa
open Go.RowKit

def rdV (l : List UInt8) : Value := .tuple #[.int .u64 ((rd l 0 0).1 : Nat), .int .i64 ((rd l 0 0).2.1 : Nat), .int .i64 ((rd l 0 0).2.2 : Nat)]

theorem rdV_eq (l : List UInt8) (a b c : Nat) (h : rd l 0 0 = (a, b, c)) : rdV l = .tuple #[.int .u64 (a : Nat), .int .i64 (b : Nat), .int .i64 (c : Nat)] := by
  unfold rdV
  rw [h]

theorem ret_int {k : IntKind} {a b : Int} (h : a = b) : Ending.returned (.int k a) = .returned (.int k b) := by rw [h]

theorem ret3 {k1 k2 k3 : IntKind} {a b c a' b' c' : Int} (h1 : a = a') (h2 : b = b') (h3 : c = c') :
    Ending.returned (.tuple #[.int k1 a, .int k2 b, .int k3 c]) = .returned (.tuple #[.int k1 a', .int k2 b', .int k3 c']) := by rw [h1, h2, h3]

theorem acc_or (acc c k : Nat) (P : Int) (hP : P = ((2 ^ (7 * k) : Nat) : Int)) (ha : acc < 128 ^ k) (hc : c < 256) (hk : k ≤ 9) (h9 : k = 9 → c ≤ 1) :
    bits BinOp.or IntKind.u64 (acc : Int) (IntKind.u64.wrap (IntKind.u64.wrap (bits BinOp.and IntKind.u8 (c : Int) 127) * P)) = ((acc + c % 128 * 128 ^ k : Nat) : Int) := by
  have e1 : bits BinOp.and IntKind.u8 (c : Int) 127 = ((c % 128 : Nat) : Int) := by
    rw [show (127 : Int) = ((127 : Nat) : Int) from rfl, u8_and_nat c 127 hc (by omega), and_low c hc]
  have e2 : IntKind.u64.wrap ((c % 128 : Nat) : Int) = ((c % 128 : Nat) : Int) := by rw [IntKind.wrap_u64]; omega
  have e3 : (2 : Nat) ^ (7 * k) = 128 ^ k := by rw [Nat.pow_mul]
  have hb : c % 128 * 128 ^ k < 18446744073709551616 := by
    rcases Nat.lt_or_ge k 9 with h | h
    · have h1 : (128 : Nat) ^ k ≤ 72057594037927936 := Nat.le_trans (Nat.pow_le_pow_right (by decide) (show k ≤ 8 by omega)) (by decide)
      exact Nat.lt_of_le_of_lt (Nat.mul_le_mul (show c % 128 ≤ 127 by omega) h1) (by decide)
    · have hk' : k = 9 := by omega
      subst hk'
      have h1 := h9 rfl
      exact Nat.lt_of_le_of_lt (Nat.mul_le_mul_right _ (show c % 128 ≤ 1 by omega)) (by decide)
  have hA : acc < 18446744073709551616 := Nat.lt_of_lt_of_le ha (Nat.le_trans (pow_le k hk) (by decide))
  rw [e1, e2, hP, e3]
  have e4 : IntKind.u64.wrap (((c % 128 : Nat) : Int) * ((128 ^ k : Nat) : Int)) = ((c % 128 * 128 ^ k : Nat) : Int) := by
    rw [← Int.natCast_mul, IntKind.wrap_u64]
    generalize c % 128 * 128 ^ k = x at hb
    omega
  rw [e4, u64_or_nat _ _ hA hb, join_bits k acc (c % 128) ha]

/-- what a group is worth -/
def p128 (k : Nat) : Nat := 128 ^ k

theorem sum_lt (acc c k : Nat) (ha : acc < 128 ^ k) (hk : k ≤ 9) (h9 : k = 9 → c ≤ 1) : acc + c % 128 * 128 ^ k < 18446744073709551616 := by
  rcases Nat.lt_or_ge k 9 with h | h
  · exact Nat.lt_of_lt_of_le (pow_next k acc (c % 128) ha (Nat.mod_lt _ (by decide))) (Nat.le_trans (pow_le (k + 1) (by omega)) (by decide))
  · have hk' : k = 9 := by omega
    subst hk'
    have h1 := h9 rfl
    have h2 : c % 128 * 128 ^ 9 ≤ 1 * 128 ^ 9 := Nat.mul_le_mul_right _ (by omega)
    have h3 : 128 ^ 9 = 9223372036854775808 := by decide
    rw [h3] at ha h2 ⊢
    omega

theorem acc_add (acc c k : Nat) (ha : acc < 128 ^ k) (hk : k ≤ 9) (h9 : k = 9 → c ≤ 1) :
    IntKind.u64.wrap ((acc : Int) + IntKind.u64.wrap ((c : Int) % 128 * (p128 k : Nat))) = ((acc + c % 128 * 128 ^ k : Nat) : Int) := by
  have hs := sum_lt acc c k ha hk h9
  have e1 : (c : Int) % 128 * (p128 k : Nat) = ((c % 128 * 128 ^ k : Nat) : Int) := by
    unfold p128
    rw [Int.natCast_mul]
    rfl
  rw [e1]
  generalize c % 128 * 128 ^ k = x at hs
  rw [IntKind.wrap_u64, IntKind.wrap_u64]
  omega

theorem worth_next (k : Nat) (hk : k < 9) : IntKind.u64.wrap ((p128 k : Nat) * 128) = (p128 (k + 1) : Nat) := by
  have h1 := pow_le (k + 1) (by omega)
  have e : (p128 (k + 1)) = p128 k * 128 := by unfold p128; rw [Nat.pow_succ]
  have h2 : p128 (k + 1) ≤ 9223372036854775808 := h1
  rw [e] at h2 ⊢
  rw [IntKind.wrap_u64]
  omega

theorem pow_int (k : Nat) : (2 : Int) ^ (7 * k) = ((2 ^ (7 * k) : Nat) : Int) := by simp

end Go.Proofs.Ytghkfhbjfmdnmaa
