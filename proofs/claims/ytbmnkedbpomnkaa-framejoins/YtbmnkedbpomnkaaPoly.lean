/-
  The registers of CRC-32C as numbers below 2^32: 'mv' is a move down by one bit, 'mul' the product of two registers, 'pw' a power. No Go in sight.
-/
namespace Go.Proofs.Ytbmnkedbpomnkaa.Poly

def mv (n : Nat) : Nat := if n % 2 = 1 then (n / 2) ^^^ 2197175160 else n / 2

def itr : Nat → Nat → Nat
  | 0, b => b
  | k + 1, b => mv (itr k b)

def mulTo (a b : Nat) : Nat → Nat
  | 0 => 0
  | k + 1 => if a.testBit (31 - k) then mulTo a b k ^^^ itr k b else mulTo a b k

def mul (a b : Nat) : Nat := mulTo a b 32

def one : Nat := 2147483648

def pw (b : Nat) : Nat → Nat
  | 0 => one
  | n + 1 => mul (pw b n) b

theorem xor_div (a b : Nat) : (a ^^^ b) / 2 = (a / 2) ^^^ (b / 2) := Nat.xor_div_two

theorem xor_four (a b c d : Nat) : (a ^^^ b) ^^^ (c ^^^ d) = (a ^^^ c) ^^^ (b ^^^ d) := by
  rw [Nat.xor_assoc, ← Nat.xor_assoc b c d, Nat.xor_comm b c, Nat.xor_assoc c b d, ← Nat.xor_assoc a c]

theorem xor_mod (a b : Nat) : (a ^^^ b) % 2 = (a % 2 + b % 2) % 2 := by
  have h := @Nat.xor_mod_two_eq_one a b
  omega

theorem mv_xor (a b : Nat) : mv (a ^^^ b) = mv a ^^^ mv b := by
  unfold mv
  rw [xor_div, xor_mod]
  rcases Nat.mod_two_eq_zero_or_one a with ha | ha <;> rcases Nat.mod_two_eq_zero_or_one b with hb | hb
  · simp [ha, hb]
  · simp [ha, hb, Nat.xor_assoc]
  · simp only [ha, hb, Nat.add_zero, Nat.reduceMod, if_true, show ((0:Nat) = 1) = False from by simp, if_false]
    rw [Nat.xor_assoc, Nat.xor_comm (b / 2), ← Nat.xor_assoc]
  · simp only [ha, hb]
    simp only [show ((1 + 1) % 2 = 1) = False from by simp, if_false, if_true]
    rw [xor_four, Nat.xor_self, Nat.xor_zero]

theorem mv_zero : mv 0 = 0 := by decide

theorem mv_lt (n : Nat) (h : n < 4294967296) : mv n < 4294967296 := by
  unfold mv
  split
  · exact Nat.xor_lt_two_pow (n := 32) (by omega) (by omega)
  · omega

theorem itr_xor (k a b : Nat) : itr k (a ^^^ b) = itr k a ^^^ itr k b := by
  induction k with
  | zero => rfl
  | succ k ih => simp only [itr, ih, mv_xor]

theorem itr_mv (k b : Nat) : itr k (mv b) = mv (itr k b) := by
  induction k with
  | zero => rfl
  | succ k ih => simp only [itr, ih]

theorem itr_zero (k : Nat) : itr k 0 = 0 := by
  induction k with
  | zero => rfl
  | succ k ih => simp only [itr, ih, mv_zero]

theorem itr_lt (k b : Nat) (h : b < 4294967296) : itr k b < 4294967296 := by
  induction k with
  | zero => exact h
  | succ k ih => exact mv_lt _ ih

theorem itr_add (j k b : Nat) : itr (j + k) b = itr j (itr k b) := by
  induction j with
  | zero => simp [itr]
  | succ j ih => rw [Nat.succ_add]; simp only [itr, ih]

theorem mulTo_lt (a b k : Nat) (h : b < 4294967296) : mulTo a b k < 4294967296 := by
  induction k with
  | zero => simp [mulTo]
  | succ k ih =>
    unfold mulTo
    split
    · exact Nat.xor_lt_two_pow (n := 32) ih (itr_lt k b h)
    · exact ih

theorem mul_lt (a b : Nat) (h : b < 4294967296) : mul a b < 4294967296 := mulTo_lt a b 32 h

theorem mulTo_xor_left (a c b k : Nat) : mulTo (a ^^^ c) b k = mulTo a b k ^^^ mulTo c b k := by
  induction k with
  | zero => simp [mulTo]
  | succ k ih =>
    simp only [mulTo, Nat.testBit_xor, ih]
    cases a.testBit (31 - k) <;> cases c.testBit (31 - k) <;> simp
    · rw [Nat.xor_assoc]
    · rw [Nat.xor_assoc, Nat.xor_assoc, Nat.xor_comm (mulTo c b k)]
    · rw [xor_four, Nat.xor_self, Nat.xor_zero]

theorem mul_xor_left (a c b : Nat) : mul (a ^^^ c) b = mul a b ^^^ mul c b := mulTo_xor_left a c b 32

/-- what is even and takes a move along takes a product along -/
theorem mulTo_map (f : Nat → Nat) (h0 : f 0 = 0) (hx : ∀ x y, f (x ^^^ y) = f x ^^^ f y) (hm : ∀ x, f (mv x) = mv (f x)) (a b k : Nat) :
    f (mulTo a b k) = mulTo a (f b) k := by
  have hi : ∀ j, f (itr j b) = itr j (f b) := by
    intro j
    induction j with
    | zero => rfl
    | succ j ih => simp only [itr, hm, ih]
  induction k with
  | zero => exact h0
  | succ k ih =>
    unfold mulTo
    split
    · rw [hx, ih, hi]
    · exact ih

theorem mulTo_zero (a k : Nat) : mulTo a 0 k = 0 := by
  induction k with
  | zero => rfl
  | succ k ih => simp only [mulTo, ih, itr_zero]; split <;> simp

theorem mulTo_xor (a b c k : Nat) : mulTo a (b ^^^ c) k = mulTo a b k ^^^ mulTo a c k := by
  induction k with
  | zero => simp [mulTo]
  | succ k ih =>
    simp only [mulTo, itr_xor, ih]
    split
    · rw [xor_four]
    · rfl

theorem mulTo_mv (a b k : Nat) : mulTo a (mv b) k = mv (mulTo a b k) :=
  (mulTo_map mv mv_zero mv_xor (fun _ => rfl) a b k).symm

theorem mul_map (c a b : Nat) : mul c (mul a b) = mul a (mul c b) :=
  mulTo_map (fun x => mul c x) (mulTo_zero c 32) (fun x y => mulTo_xor c x y 32) (fun x => mulTo_mv c x 32) a b 32

theorem itr_one : ∀ k, k < 32 → itr k one = 2 ^ (31 - k) := by decide +kernel

theorem mulTo_one (a k : Nat) (hk : k ≤ 32) : ∀ j, (mulTo a one k).testBit j = (decide (32 - k ≤ j ∧ j < 32) && a.testBit j) := by
  induction k with
  | zero => intro j; simp only [mulTo, Nat.zero_testBit]; symm; simp; omega
  | succ k ih =>
    intro j
    have ih := ih (by omega) j
    have e : ∀ b, (if a.testBit (31 - k) then mulTo a one k ^^^ itr k one else mulTo a one k).testBit j = b ↔ ((mulTo a one k).testBit j ^^ (a.testBit (31 - k) && (itr k one).testBit j)) = b := by
      intro b
      cases a.testBit (31 - k) <;> simp [Nat.testBit_xor]
    unfold mulTo
    rw [e, ih, itr_one k (by omega), Nat.testBit_two_pow]
    by_cases h : j = 31 - k
    · subst h
      simp [show ¬ (32 - k ≤ 31 - k) by omega, show 31 - k < 32 by omega]
    · have h' : ¬ (31 - k = j) := fun e => h e.symm
      have h2 : (32 - (k + 1) ≤ j ∧ j < 32) ↔ (32 - k ≤ j ∧ j < 32) := by omega
      simp only [h', decide_false, Bool.and_false, Bool.xor_false, h2]

theorem mul_one (a : Nat) (h : a < 4294967296) : mul a one = a := by
  apply Nat.eq_of_testBit_eq
  intro j
  unfold mul
  rw [mulTo_one a 32 (by omega) j]
  by_cases hj : j < 32
  · simp [hj]
  · rw [Nat.testBit_lt_two_pow (x := a) (i := j) (Nat.lt_of_lt_of_le h (show 2 ^ 32 ≤ 2 ^ j from Nat.pow_le_pow_right (by omega) (by omega)))]
    simp

theorem mul_comm (a b : Nat) (ha : a < 4294967296) (hb : b < 4294967296) : mul a b = mul b a := by
  have h := mul_map a b one
  rw [mul_one b hb, mul_one a ha] at h
  exact h

theorem mul_assoc (a b c : Nat) (hb : b < 4294967296) (hc : c < 4294967296) : mul (mul a b) c = mul a (mul b c) := by
  rw [mul_comm (mul a b) c (mul_lt a b hb) hc, mul_map c a b, mul_comm c b hc hb]

theorem one_lt : one < 4294967296 := by decide

theorem pw_lt (b n : Nat) (h : b < 4294967296) : pw b n < 4294967296 := by
  cases n with
  | zero => exact one_lt
  | succ n => exact mul_lt _ _ h

theorem one_mul (b : Nat) (h : b < 4294967296) : mul one b = b := by
  rw [mul_comm one b one_lt h, mul_one b h]

theorem pw_add (b m n : Nat) (h : b < 4294967296) : pw b (m + n) = mul (pw b m) (pw b n) := by
  induction n with
  | zero => simp only [Nat.add_zero, pw]; rw [mul_one _ (pw_lt b m h)]
  | succ n ih =>
    rw [← Nat.add_assoc]
    simp only [pw]
    rw [ih, mul_assoc _ _ _ (pw_lt b n h) h]

theorem pw_two (b n : Nat) (h : b < 4294967296) : pw (mul b b) n = pw b (2 * n) := by
  induction n with
  | zero => rfl
  | succ n ih =>
    rw [show 2 * (n + 1) = 2 * n + 2 by omega, pw_add b (2 * n) 2 h]
    simp only [pw]
    rw [ih, one_mul b h]

/-- one round of the way up by squares -/
theorem pw_round (p b n : Nat) (hb : b < 4294967296) :
    mul p (pw b n) = if n % 2 = 1 then mul (mul p b) (pw (mul b b) (n / 2)) else mul p (pw (mul b b) (n / 2)) := by
  rw [pw_two b (n / 2) hb]
  split
  · have e : n = 1 + 2 * (n / 2) := by omega
    rw [mul_assoc p b _ hb (pw_lt b _ hb)]
    conv => lhs; rw [e, pw_add b 1 _ hb]
    simp only [pw]
    rw [one_mul b hb]
  · have e : n = 2 * (n / 2) := by omega
    conv => lhs; rw [e]

/-- a sum and the bytes behind it: three joined from the left and from the right -/
theorem three (a b c g n m : Nat) (hg : g < 4294967296) :
    mul (mul a (pw g n) ^^^ b) (pw g m) ^^^ c = mul a (pw g (n + m)) ^^^ (mul b (pw g m) ^^^ c) := by
  rw [mul_xor_left, pw_add g n m hg, mul_assoc a _ _ (pw_lt g n hg) (pw_lt g m hg), Nat.xor_assoc]

end Go.Proofs.Ytbmnkedbpomnkaa.Poly
