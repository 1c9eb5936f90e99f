/-
  Floats, pure: rounding.
-/
import Derived.Test.YtgnnopjkbmbjbaaDoorFl1
namespace Go.Proofs.YtgnnopjkbmbjbaaDoor
open Go.RowKit
set_option maxRecDepth 100000
set_option linter.unusedSimpArgs false

/-- n / 2 ^ d, to the nearest, halves to even -/
def rnd (n d : Nat) : Nat := n / 2 ^ d + (decide (2 ^ d < 2 * (n % 2 ^ d)) || (2 ^ d == 2 * (n % 2 ^ d) && n / 2 ^ d % 2 == 1)).toNat
theorem two_pos (d : Nat) : 0 < 2 ^ d := Nat.two_pow_pos d
theorem cut_even (s : Bool) (n d : Nat) : Ieee.Toward.even.cut s n d = rnd n d := by
  unfold Ieee.Toward.cut rnd
  simp only
  rw [Nat.one_shiftLeft]
  rcases Nat.le_total d (n.log2 + 2) with h | h
  · rw [Nat.min_eq_left h]
  · rw [Nat.min_eq_right h]
    have hn : n < 2 ^ (n.log2 + 1) := Nat.lt_log2_self
    have h1 : 2 ^ (n.log2 + 2) = 2 * 2 ^ (n.log2 + 1) := by rw [Nat.pow_succ, Nat.mul_comm]
    have h2 : 2 ^ (n.log2 + 2) ≤ 2 ^ d := Nat.pow_le_pow_right (by omega) h
    rw [Nat.div_eq_of_lt (by omega), Nat.mod_eq_of_lt (by omega), Nat.div_eq_of_lt (show n < 2 ^ d by omega), Nat.mod_eq_of_lt (show n < 2 ^ d by omega)]
    have e1 : decide (2 ^ (n.log2 + 2) < 2 * n) = false := decide_eq_false (by omega)
    have e2 : decide (2 ^ d < 2 * n) = false := decide_eq_false (by omega)
    rw [e1, e2]
    simp
theorem toNat_mono {a b : Bool} (h : a = true → b = true) : a.toNat ≤ b.toNat := by cases a <;> cases b <;> simp at *
theorem rnd_le {n d N : Nat} (h : n ≤ N * 2 ^ d) : rnd n d ≤ N := by
  have hG := two_pos d
  have hq : n / 2 ^ d ≤ N := Nat.div_le_of_le_mul (by rw [Nat.mul_comm]; exact h)
  have hdm := Nat.div_add_mod n (2 ^ d)
  unfold rnd
  rcases Nat.lt_or_ge (n / 2 ^ d) N with hlt | hge
  · have : (decide (2 ^ d < 2 * (n % 2 ^ d)) || (2 ^ d == 2 * (n % 2 ^ d) && n / 2 ^ d % 2 == 1)).toNat ≤ 1 := Bool.toNat_le _
    omega
  · have e : n / 2 ^ d = N := by omega
    rw [e, Nat.mul_comm] at hdm
    have r0 : n % 2 ^ d = 0 := by omega
    rw [r0, e]
    have e1 : decide (2 ^ d < 2 * 0) = false := decide_eq_false (by omega)
    have e2 : (2 ^ d == 2 * 0) = false := by rw [beq_eq_false_iff_ne]; omega
    rw [e1, e2]
    simp
theorem rnd_ge {n d N : Nat} (h : N * 2 ^ d ≤ n) : N ≤ rnd n d := by
  have : N ≤ n / 2 ^ d := (Nat.le_div_iff_mul_le (two_pos d)).2 h
  unfold rnd
  omega
theorem rnd_mono {n n' d : Nat} (h : n ≤ n') : rnd n d ≤ rnd n' d := by
  have hq : n / 2 ^ d ≤ n' / 2 ^ d := Nat.div_le_div_right h
  have b1 : (decide (2 ^ d < 2 * (n % 2 ^ d)) || (2 ^ d == 2 * (n % 2 ^ d) && n / 2 ^ d % 2 == 1)).toNat ≤ 1 := Bool.toNat_le _
  unfold rnd
  rcases Nat.lt_or_ge (n / 2 ^ d) (n' / 2 ^ d) with hlt | hge
  · omega
  · have e : n / 2 ^ d = n' / 2 ^ d := by omega
    have hr : n % 2 ^ d ≤ n' % 2 ^ d := by
      have h1 := Nat.div_add_mod n (2 ^ d)
      have h2 := Nat.div_add_mod n' (2 ^ d)
      rw [e] at h1
      omega
    rw [e]
    apply Nat.add_le_add_left
    apply toNat_mono
    intro hb
    simp only [Bool.or_eq_true, decide_eq_true_eq, Bool.and_eq_true, beq_iff_eq] at hb ⊢
    omega
theorem rnd_shift (n d k : Nat) : rnd (n * 2 ^ k) (d + k) = rnd n d := by
  unfold rnd
  have hk := two_pos k
  have e1 : 2 ^ (d + k) = 2 ^ d * 2 ^ k := Nat.pow_add ..
  rw [e1, Nat.mul_div_mul_right _ _ hk, Nat.mul_mod_mul_right]
  have c1 : decide (2 ^ d * 2 ^ k < 2 * (n % 2 ^ d * 2 ^ k)) = decide (2 ^ d < 2 * (n % 2 ^ d)) := by
    rw [← Nat.mul_assoc]
    by_cases h : 2 ^ d < 2 * (n % 2 ^ d)
    · rw [decide_eq_true h, decide_eq_true ((Nat.mul_lt_mul_right hk).2 h)]
    · rw [decide_eq_false h, decide_eq_false (fun h2 => h ((Nat.mul_lt_mul_right hk).1 h2))]
  have c2 : (2 ^ d * 2 ^ k == 2 * (n % 2 ^ d * 2 ^ k)) = (2 ^ d == 2 * (n % 2 ^ d)) := by
    rw [← Nat.mul_assoc]
    by_cases h : 2 ^ d = 2 * (n % 2 ^ d)
    · rw [show (2 ^ d == 2 * (n % 2 ^ d)) = true from beq_iff_eq.2 h, beq_iff_eq]
      exact congrArg (· * 2 ^ k) h
    · rw [show (2 ^ d == 2 * (n % 2 ^ d)) = false from beq_eq_false_iff_ne.2 h, beq_eq_false_iff_ne]
      exact fun h2 => h (Nat.mul_right_cancel hk h2)
  rw [c1, c2]
/-- a number in units of 2 ^ b -/
def sc (m : Nat) (i b : Int) : Nat := m * 2 ^ (i - b).toNat
theorem sc_down (m : Nat) {i b c : Int} (h1 : c ≤ b) (h2 : b ≤ i) : sc m i c = sc m i b * 2 ^ (b - c).toNat := by
  unfold sc
  rw [Nat.mul_assoc, ← Nat.pow_add]
  congr 2
  omega
theorem sc_le_iff {m n : Nat} {i j b c : Int} (h1 : c ≤ b) (h2 : b ≤ i) (h3 : b ≤ j) : sc m i c ≤ sc n j c ↔ sc m i b ≤ sc n j b := by
  rw [sc_down m h1 h2, sc_down n h1 h3]
  exact Nat.mul_le_mul_right_iff (two_pos _)
/-- the place of the last digit kept -/
def lastP (m : Nat) (i : Int) : Int := max (i + m.log2 - 52) (-1074)
/-- what is kept -/
def kep (m : Nat) (i : Int) : Nat := rnd (m <<< (i - lastP m i).toNat) (lastP m i - i).toNat
theorem kep_sc {m : Nat} {i b : Int} (h1 : b ≤ i) (h2 : b ≤ lastP m i) : kep m i = rnd (sc m i b) (lastP m i - b).toNat := by
  unfold kep
  rw [Nat.shiftLeft_eq]
  generalize lastP m i = l at *
  rcases Int.le_total l i with h | h
  · have e1 : (l - i).toNat = 0 := by omega
    have e2 : (l - b).toNat = 0 + (l - b).toNat := by omega
    rw [e1, e2, ← rnd_shift _ 0 (l - b).toNat]
    congr 1
    unfold sc
    rw [Nat.mul_assoc, ← Nat.pow_add]
    congr 2
    omega
  · have e1 : (i - l).toNat = 0 := by omega
    have e2 : (l - b).toNat = (l - i).toNat + (i - b).toNat := by omega
    rw [e1, e2, Nat.pow_zero, Nat.mul_one]
    exact (rnd_shift _ _ _).symm
theorem kep_hi (m : Nat) (i : Int) : kep m i ≤ 9007199254740992 := by
  have hb1 : min i (lastP m i) ≤ i := by omega
  have hb2 : min i (lastP m i) ≤ lastP m i := by omega
  rw [kep_sc hb1 hb2]
  apply rnd_le
  generalize hbq : min i (lastP m i) = b at *
  have hn : m < 2 ^ (m.log2 + 1) := Nat.lt_log2_self
  have hl : i + m.log2 - 52 ≤ lastP m i := by unfold lastP; omega
  have h3 : m.log2 + 1 + (i - b).toNat ≤ 53 + (lastP m i - b).toNat := by omega
  unfold sc
  have h4 : m * 2 ^ (i - b).toNat ≤ 2 ^ (m.log2 + 1) * 2 ^ (i - b).toNat := Nat.mul_le_mul_right _ (by omega)
  rw [← Nat.pow_add] at h4
  have h5 : 2 ^ (m.log2 + 1 + (i - b).toNat) ≤ 2 ^ (53 + (lastP m i - b).toNat) := Nat.pow_le_pow_right (by omega) h3
  rw [Nat.pow_add 2 53] at h5
  have h6 : (2 : Nat) ^ 53 = 9007199254740992 := by decide
  rw [h6] at h5
  exact Nat.le_trans h4 h5
theorem kep_lo {m : Nat} {i : Int} (hm : m ≠ 0) (hl : -1074 < lastP m i) : 4503599627370496 ≤ kep m i := by
  have hb1 : min i (lastP m i) ≤ i := by omega
  have hb2 : min i (lastP m i) ≤ lastP m i := by omega
  rw [kep_sc hb1 hb2]
  apply rnd_ge
  generalize hbq : min i (lastP m i) = b at *
  have hn : 2 ^ m.log2 ≤ m := Nat.log2_self_le hm
  have hl2 : lastP m i = i + m.log2 - 52 := by unfold lastP at hl ⊢; omega
  have h3 : 52 + (lastP m i - b).toNat = m.log2 + (i - b).toNat := by omega
  have h6 : (2 : Nat) ^ 52 = 4503599627370496 := by decide
  rw [← h6, ← Nat.pow_add, h3, Nat.pow_add]
  unfold sc
  exact Nat.mul_le_mul_right _ hn
end Go.Proofs.YtgnnopjkbmbjbaaDoor
