/-
  Numbers in groups of seven bits: the plain mathematics. No Go in sight.
-/
namespace Go.Proofs.Ytfhicemfhkhjaab

/-- the byte of the lowest group, another behind it -/
def gb (n : Nat) : UInt8 := UInt8.ofNat (n % 128 + 128)
/-- the lowest byte -/
def lb (n : Nat) : UInt8 := UInt8.ofNat n

theorem gb_toNat (n : Nat) : (gb n).toNat = n % 128 + 128 := by
  unfold gb
  rw [UInt8.toNat_ofNat']
  omega
theorem lb_toNat (n : Nat) : (lb n).toNat = n % 256 := by
  unfold lb
  rw [UInt8.toNat_ofNat']

/-- a number, group by group, k groups at the most behind the first -/
def grpF : Nat → Nat → List UInt8
  | 0, n => [lb n]
  | k + 1, n => if n < 128 then [lb n] else gb n :: grpF k (n / 128)

theorem grpF_enough (k : Nat) : ∀ j n, n ≤ k → n ≤ j → grpF k n = grpF j n := by
  induction k with
  | zero =>
    intro j n hk _
    have : n = 0 := by omega
    subst this
    cases j with
    | zero => rfl
    | succ j => simp [grpF]
  | succ k ih =>
    intro j n hk hj
    cases j with
    | zero =>
      have : n = 0 := by omega
      subst this
      simp [grpF]
    | succ j =>
      unfold grpF
      split
      · rfl
      · rw [ih j (n / 128) (by omega) (by omega)]

/-- a number, group by group -/
def grp (n : Nat) : List UInt8 := grpF n n

theorem grp_small (n : Nat) (h : n < 128) : grp n = [lb n] := by
  unfold grp
  cases n with
  | zero => rfl
  | succ n => unfold grpF; rw [if_pos h]
theorem grp_more (n : Nat) (h : ¬ n < 128) : grp n = gb n :: grp (n / 128) := by
  unfold grp
  cases n with
  | zero => omega
  | succ n =>
    conv => lhs; unfold grpF
    rw [if_neg h, grpF_enough n ((n + 1) / 128) ((n + 1) / 128) (by omega) (Nat.le_refl _)]

theorem grp_pos (n : Nat) : 0 < (grp n).length := by
  by_cases h : n < 128
  · rw [grp_small n h]; simp
  · rw [grp_more n h]; simp

theorem grp_length (k n : Nat) (h : n < 128 ^ (k + 1)) : (grp n).length ≤ k + 1 := by
  induction k generalizing n with
  | zero => rw [grp_small n (by simpa using h)]; simp
  | succ k ih =>
    by_cases h1 : n < 128
    · rw [grp_small n h1]; simp
    · rw [grp_more n h1, List.length_cons]
      have := ih (n / 128) (Nat.div_lt_of_lt_mul (by rw [Nat.pow_succ, Nat.mul_comm] at h; exact h))
      omega

theorem grp_le (n : Nat) (h : n < 18446744073709551616) : (grp n).length ≤ 10 :=
  grp_length 9 n (Nat.lt_of_lt_of_le h (by decide))

theorem or_high : ∀ x : Nat, x < 256 → x ||| 128 = x % 128 + 128 := by decide +kernel
theorem and_low : ∀ x : Nat, x < 256 → x &&& 127 = x % 128 := by decide +kernel

/-- how a number is read: the number, how many bytes, the error (0: none; 3: short; 10: form; 11: wide) -/
def rd : List UInt8 → Nat → Nat → Nat × Nat × Nat
  | [], i, _ => (0, i, 3)
  | c :: r, i, n =>
    if i = 9 ∧ 1 < c.toNat then (0, i, 11)
    else if 0 < i ∧ c.toNat = 0 then (0, i, 10)
    else if c.toNat < 128 then (n + c.toNat % 128 * 128 ^ i, i + 1, 0)
    else rd r (i + 1) (n + c.toNat % 128 * 128 ^ i)

theorem rd_le (l : List UInt8) : ∀ i n, (rd l i n).2.1 ≤ i + l.length := by
  induction l with
  | nil => intro i n; simp [rd]
  | cons c r ih =>
    intro i n
    unfold rd
    split
    · simp
    · split
      · simp
      · split
        · simp
        · have := ih (i + 1) (n + c.toNat % 128 * 128 ^ i)
          simp only [List.length_cons]
          omega

/-- a number with one group more is the sum -/
theorem join_bits (i n m : Nat) (h : n < 128 ^ i) : n ||| m * 128 ^ i = n + m * 128 ^ i := by
  have e : (128 : Nat) ^ i = 2 ^ (7 * i) := by rw [Nat.pow_mul]
  rw [e] at h ⊢
  rw [Nat.or_comm, Nat.mul_comm, ← Nat.two_pow_add_eq_or_of_lt h, Nat.add_comm]

theorem pow_next (i n m : Nat) (h : n < 128 ^ i) (hm : m < 128) : n + m * 128 ^ i < 128 ^ (i + 1) := by
  rw [Nat.pow_succ]
  have : m * 128 ^ i ≤ 127 * 128 ^ i := Nat.mul_le_mul_right _ (by omega)
  omega

theorem pow_le (i : Nat) (h : i ≤ 9) : 128 ^ i ≤ 9223372036854775808 :=
  Nat.le_trans (Nat.pow_le_pow_right (by decide) h) (by decide)

/-- what is read, one byte on -/
theorem rd_step (l : List UInt8) (k n : Nat) (hk : k < l.length) : rd (l.drop k) k n =
    if k = 9 ∧ 1 < l[k].toNat then (0, k, 11)
    else if 0 < k ∧ l[k].toNat = 0 then (0, k, 10)
    else if l[k].toNat < 128 then (n + l[k].toNat % 128 * 128 ^ k, k + 1, 0)
    else rd (l.drop (k + 1)) (k + 1) (n + l[k].toNat % 128 * 128 ^ k) := by
  rw [List.drop_eq_getElem_cons hk]
  rfl

theorem rd_end (l : List UInt8) (n : Nat) : rd (l.drop l.length) l.length n = (0, l.length, 3) := by
  rw [List.drop_length]
  rfl

end Go.Proofs.Ytfhicemfhkhjaab
