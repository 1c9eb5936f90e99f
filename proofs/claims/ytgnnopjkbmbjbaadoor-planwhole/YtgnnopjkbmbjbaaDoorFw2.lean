/-
  Floats, pure: the mean of one number, its deviation; a sign turned; quarters turned.
-/
import Derived.Test.YtgnnopjkbmbjbaaDoorFw1
namespace Go.Proofs.YtgnnopjkbmbjbaaDoor
open Go.RowKit
set_option maxRecDepth 100000
set_option linter.unusedSimpArgs false

theorem rd_val {b : Nat} {s : Bool} {m v : Nat} {e : Int} (h : FV b s v) (r : rdF b = .number s m e) : -1074 ≤ e ∧ sc m e (-1074) = v := by
  obtain ⟨m', e', h1, h2, h3⟩ := h
  rw [r] at h1
  cases h1
  exact ⟨h2, h3⟩
/-- a quotient that comes out even -/
theorem div_even {a b c n : Nat} (ha : FV a false (c * n * U)) (hb : FV b false (n * U)) (hn : 0 < n) (hc : c < 9007199254740992) : ∃ r, dbl.div a b = some r ∧ FV r false (c * U) := by
  obtain ⟨m, i, h1, h2, e1⟩ := ha
  obtain ⟨k, j, k1, k2, e2⟩ := hb
  have hnU : 0 < n * U := Nat.mul_pos hn U_pos
  have hk : k ≠ 0 := by
    intro h0
    subst h0
    rw [sc_nil] at e2
    omega
  refine ⟨dbl.nearest false (2 * ((m <<< (54 + k.log2 - m.log2)) / k) + ((m <<< (54 + k.log2 - m.log2)) % k != 0).toNat) (i - j - ((54 + k.log2 - m.log2 : Nat) : Int) - 1), ?_, ?_⟩
  · show ((rdF a).quotient (52 + 2) (rdF b)).map dbl.write = _
    rw [h1, k1]
    simp only [Ieee.Datum.quotient, if_neg hk, Option.map_some]
    rfl
  rw [← sc_U]
  have hmc : sc m i (-1074) = c * sc k j (-1074) := by rw [e1, e2, Nat.mul_assoc]
  by_cases hm : m = 0
  · subst hm
    have c0 : c = 0 := by
      rw [sc_nil, e2] at hmc
      rcases Nat.eq_zero_or_pos c with h | h
      · exact h
      · have := Nat.mul_pos h hnU; omega
    subst c0
    have e0 : 2 * ((0 <<< (54 + k.log2 - Nat.log2 0)) / k) + ((0 <<< (54 + k.log2 - Nat.log2 0)) % k != 0).toNat = 0 := by rw [Nat.zero_shiftLeft, Nat.zero_div, Nat.zero_mod]; rfl
    rw [e0]
    generalize i - j - ((54 + k.log2 - Nat.log2 0 : Nat) : Int) - 1 = x
    exact near_eq false (b := min x (-1074)) (by omega) (by omega) (by omega) (by omega) (by omega) (by omega) (by rw [sc_nil, sc_nil])
  · have hE : i + 1074 ≤ j + 1074 + ((54 + k.log2 - m.log2 : Nat) : Int) := by
      have l1 : 2 ^ (m.log2 + (i - -1074).toNat) ≤ sc m i (-1074) := by unfold sc; rw [Nat.pow_add]; exact Nat.mul_le_mul_right _ (Nat.log2_self_le hm)
      have l2 : c * sc k j (-1074) < 2 ^ (53 + (k.log2 + 1) + (j - -1074).toNat) := by
        unfold sc
        rw [Nat.pow_add, Nat.pow_add 2 53, ← Nat.mul_assoc]
        refine (Nat.mul_lt_mul_right (two_pos _)).2 ?_
        have h53 : c ≤ 2 ^ 53 := by have h6 : (2 : Nat) ^ 53 = 9007199254740992 := by decide
                                    omega
        exact Nat.lt_of_le_of_lt (Nat.mul_le_mul_right _ h53) ((Nat.mul_lt_mul_left (two_pos 53)).2 Nat.lt_log2_self)
      have l3 := (Nat.pow_lt_pow_iff_right (by omega : 1 < 2)).1 (Nat.lt_of_le_of_lt (hmc ▸ l1) l2)
      omega
    generalize 54 + k.log2 - m.log2 = more at *
    obtain ⟨t, ht⟩ : ∃ t : Nat, (t : Int) = j + more - i := ⟨(j + more - i).toNat, by omega⟩
    have hd : m <<< more = c * 2 ^ t * k := by
      rw [Nat.shiftLeft_eq]
      apply Nat.eq_of_mul_eq_mul_right (two_pos (i - -1074).toNat)
      have hx : m * 2 ^ more * 2 ^ (i - -1074).toNat = sc m i (-1074) * 2 ^ more := by unfold sc; rw [Nat.mul_assoc, Nat.mul_comm (2 ^ more), ← Nat.mul_assoc]
      rw [hx, hmc]
      unfold sc
      have : (j - -1074).toNat + more = t + (i - -1074).toNat := by omega
      rw [Nat.mul_assoc, Nat.mul_assoc, ← Nat.pow_add, this, Nat.pow_add, Nat.mul_assoc, Nat.mul_assoc, Nat.mul_left_comm k, ]
    rw [hd, Nat.mul_div_cancel _ (Nat.pos_of_ne_zero hk), Nat.mul_mod_left]
    refine near_eq false (b := min (i - j - (more : Int) - 1) (-1074)) hc (by omega) (by omega) (by omega) (by omega) (by omega) ?_
    show sc (2 * (c * 2 ^ t) + 0) _ _ = _
    unfold sc
    generalize hb : min (i - j - (more : Int) - 1) (-1074) = b
    have : (0 - b).toNat = t + 1 + (i - j - (more : Int) - 1 - b).toNat := by omega
    rw [this, Nat.pow_add, Nat.pow_succ, Nat.add_zero, ← Nat.mul_assoc, ← Nat.mul_assoc, Nat.mul_comm 2 c, Nat.mul_assoc c 2, Nat.mul_comm 2 (2 ^ t)]
/-- two that stand for the same, the one less the other -/
theorem sub_even {a b v : Nat} (ha : FV a false v) (hb : FV b false v) : ∃ r, dbl.sub a b = some r ∧ FV r false 0 := by
  obtain ⟨m, i, h1, h2, e1⟩ := ha
  obtain ⟨n, j, k1, k2, e2⟩ := hb
  have hle : sc m i (min i j) = sc n j (min i j) := Nat.le_antisymm
    ((sc_le_iff (c := -1074) (b := min i j) (by omega) (by omega) (by omega)).1 (Nat.le_of_eq (e1.trans e2.symm)))
    ((sc_le_iff (c := -1074) (b := min i j) (by omega) (by omega) (by omega)).1 (Nat.le_of_eq (e2.trans e1.symm)))
  have e3 : Ieee.signed false m (i - min i j).toNat + Ieee.signed true n (j - min i j).toNat = 0 := by
    unfold Ieee.signed
    rw [Nat.shiftLeft_eq, Nat.shiftLeft_eq]
    simp only [Bool.false_eq_true, if_false, if_true]
    unfold sc at hle
    omega
  refine ⟨dbl.nearest false 0 (min i j), ?_, ?_⟩
  · show ((rdF a).sum (rdF b).opposite).map dbl.write = _
    rw [h1, k1]
    simp only [Ieee.Datum.opposite, Ieee.Datum.sum, Bool.not_false, e3, Option.map_some, Option.some.injEq]
    rfl
  · have := near_eq false (m := 0) (c := 0) (i := min i j) (q := 0) (b := -1074) (by omega) (by omega) (by omega) (by omega) (by omega) (by omega) (by rw [sc_nil, sc_nil])
    rw [sc_nil] at this
    exact this
theorem sqL_even {mean c : Nat} (hm : FV mean false (c * U)) (hc : c < 9007199254740992) (n : Nat) : FV (sqL mean (List.replicate n (c : Int))) false 0 := by
  induction n with
  | zero => exact zero_FV
  | succ n ih =>
    rw [List.replicate_succ', sqL_snoc]
    obtain ⟨d, h1, f1⟩ := sub_even (int_FV c hc) hm
    obtain ⟨q, h2, f2⟩ := mul_nil f1 f1
    obtain ⟨r, p, h3, f3, z3⟩ := add_exact (c := 0) (d := 0) (by rw [Nat.zero_mul]; exact ih) f2 (fun _ => rfl) (by omega)
    have e : sqS mean (sqL mean (List.replicate n (c : Int))) (c : Int) = r := by unfold sqS; simp [h1, h2, h3]
    rw [e]
    rw [z3 rfl, Nat.add_zero, Nat.zero_mul] at f3
    exact f3
theorem smL_even (c n : Nat) : smL (List.replicate n (c : Int)) = ((c * n : Nat) : Int) := by
  induction n with
  | zero => rfl
  | succ n ih => rw [List.replicate_succ', smL_snoc, ih, Nat.mul_succ]; omega
theorem sqrt_nil {a : Nat} (ha : FV a false 0) : ∃ r, dbl.sqrt a = some r ∧ FV r false 0 := by
  obtain ⟨m, i, h1, h2, e1⟩ := ha
  have hm := sc_zero e1
  subst hm
  refine ⟨dbl.nearest false 0 i, ?_, ?_⟩
  · show ((rdF a).root (52 + 2)).map dbl.write = _
    rw [h1]
    unfold Ieee.Datum.root
    dsimp only
    rw [if_pos rfl]
    rfl
  · have := near_eq false (m := 0) (c := 0) (i := i) (q := 0) (b := -1074) (by omega) (by omega) (by omega) (by omega) (by omega) (by omega) (by rw [sc_nil, sc_nil])
    rw [sc_nil] at this
    exact this
/-- one number, n times: its mean, its deviation -/
theorem st_even {c n : Nat} (hc : c ≤ 255) (h0 : 0 < n) (hn : n ≤ 4096) : dbl.order (meL (List.replicate n (c : Int))) (floatOfInt .f64 (c : Int)) = some .eq ∧ dbl.order (deL (List.replicate n (c : Int))) 0 = some .eq := by
  have hcn : c * n ≤ 255 * 4096 := Nat.mul_le_mul hc hn
  obtain ⟨r, hr, fr⟩ := div_even (int_FV (c * n) (by omega)) (int_FV n (by omega)) h0 (show c < 9007199254740992 by omega)
  have eM : meL (List.replicate n (c : Int)) = r := by
    unfold meL
    rw [smL_even, List.length_replicate, hr]
    rfl
  obtain ⟨q, hq, fq⟩ := div_even (c := 0) (by rw [Nat.zero_mul, Nat.zero_mul]; exact sqL_even fr (by omega) n) (int_FV n (by omega)) h0 (by omega)
  rw [Nat.zero_mul] at fq
  obtain ⟨d, hd, fd⟩ := sqrt_nil fq
  have eD : deL (List.replicate n (c : Int)) = d := by
    unfold deL
    rw [eM, List.length_replicate, hq]
    simp [hd]
  rw [eM, eD]
  exact ⟨WH.order ⟨false, fr, fun h => by cases h⟩ (by omega), by rw [order_FV fd zero_FV]; simp⟩
/-- a whole number, of either sign, made a float -/
theorem intS_FV (n : Int) (h : n.natAbs < 9007199254740992) : FV (floatOfInt .f64 n) (decide (n < 0)) (n.natAbs * U) := by
  rw [← sc_U]
  exact near_eq (decide (n < 0)) (b := -1074) h (by omega) (by omega) (by omega) (by omega) (by omega) rfl
/-- a sign turned -/
theorem neg_FV {b : Nat} {s : Bool} {v : Nat} (h : FV b s v) : FV (Op.negFloat .f64 b) (!s) v := by
  have hs : dbl.signWeight = 2 ^ 63 := by decide +kernel
  have e0 : Op.negFloat .f64 b = b ^^^ 2 ^ 63 := rfl
  have e1 : (b ^^^ 2 ^ 63) % 2 ^ 63 = b % 2 ^ 63 := by rw [Nat.xor_mod_two_pow, Nat.mod_self, Nat.xor_zero]
  have e2 : ((b ^^^ 2 ^ 63) / 2 ^ 63 % 2 == 1) = !(b / 2 ^ 63 % 2 == 1) := by
    rw [Nat.xor_div_two_pow, Nat.div_self (two_pos 63)]
    have := Nat.xor_mod_two_pow (a := b / 2 ^ 63) (b := 1) (n := 1)
    rw [Nat.pow_one] at this
    rw [this]
    rcases Nat.mod_two_eq_zero_or_one (b / 2 ^ 63) with h | h <;> rw [h] <;> rfl
  obtain ⟨m, e, h1, h2, h3⟩ := h
  refine ⟨m, e, ?_, h2, h3⟩
  rw [e0]
  unfold rdF Ieee.Format.read at h1 ⊢
  simp only [hs, e1, e2] at h1 ⊢
  generalize b % 2 ^ 63 = r at *
  split at h1
  · rename_i hr
    rw [if_pos hr]
    cases h1
    rfl
  · rename_i hr
    rw [if_neg hr]
    split at h1
    · rename_i hr2
      rw [if_pos hr2]
      cases h1
      rfl
    · split at h1 <;> cases h1
theorem order_neg (n : Int) (h : n.natAbs < 9007199254740992) : dbl.order (floatOfInt .f64 (-n)) (Op.negFloat .f64 (floatOfInt .f64 n)) = some .eq := by
  rw [order_FV (intS_FV (-n) (by omega)) (neg_FV (intS_FV n h)), Int.natAbs_neg]
  congr 1
  rw [Int.compare_eq_eq]
  by_cases h0 : n = 0
  · subst h0; simp [sg]
  · by_cases h1 : n < 0
    · rw [decide_eq_true h1, decide_eq_false (by omega)]; rfl
    · rw [decide_eq_false h1, decide_eq_true (by omega)]; rfl
theorem tr_all : (trR 0 = 1 ∧ trR 1 = 0 ∧ trR 2 = -1 ∧ trR 3 = 0) ∧ trI 0 = 0 ∧ trI 1 = -1 ∧ trI 2 = 0 ∧ trI 3 = 1 := ⟨⟨rfl, rfl, rfl, rfl⟩, rfl, rfl, rfl, rfl⟩
theorem q_zero (L : List Int) : ∀ T, qre L 0 T = smL (L.take T) ∧ qim L 0 T = 0
  | 0 => ⟨rfl, rfl⟩
  | T + 1 => by
    obtain ⟨h1, h2⟩ := q_zero L T
    simp only [qre, qim, h1, h2, Nat.zero_mul, Nat.zero_mod, trR, trI]
    by_cases hT : T < L.length
    · rw [List.take_succ_eq_append_getElem hT, smL_snoc, List.getElem?_eq_getElem hT]
      simp
    · rw [List.take_of_length_le (by omega), List.take_of_length_le (by omega), List.getElem?_eq_none (by omega)]
      simp
theorem q_two (L : List Int) : ∀ T, qim L 2 T = 0
  | 0 => rfl
  | T + 1 => by
    simp only [qim, q_two L T]
    rcases (show 2 * T % 4 = 0 ∨ 2 * T % 4 = 2 by omega) with h | h <;> rw [h] <;> simp [trI]
theorem q_three (L : List Int) : ∀ T, qre L 3 T = qre L 1 T ∧ qim L 3 T = -qim L 1 T
  | 0 => ⟨rfl, rfl⟩
  | T + 1 => by
    obtain ⟨h1, h2⟩ := q_three L T
    simp only [qre, qim, h1, h2]
    generalize (L[T]?).getD 0 = x
    generalize qre L 1 T = a
    generalize qim L 1 T = b
    rcases (show T % 4 = 0 ∨ T % 4 = 1 ∨ T % 4 = 2 ∨ T % 4 = 3 by omega) with h | h | h | h
    · have a1 : 3 * T % 4 = 0 := by omega
      rw [Nat.one_mul, h, a1]; refine ⟨?_, ?_⟩ <;> simp only [tr_all] <;> omega
    · have a1 : 3 * T % 4 = 3 := by omega
      rw [Nat.one_mul, h, a1]; refine ⟨?_, ?_⟩ <;> simp only [tr_all] <;> omega
    · have a1 : 3 * T % 4 = 2 := by omega
      rw [Nat.one_mul, h, a1]; refine ⟨?_, ?_⟩ <;> simp only [tr_all] <;> omega
    · have a1 : 3 * T % 4 = 1 := by omega
      rw [Nat.one_mul, h, a1]; refine ⟨?_, ?_⟩ <;> simp only [tr_all] <;> omega
theorem q_move (L : List Int) : ∀ T, qre (0 :: L) 1 (T + 1) = qim L 1 T ∧ qim (0 :: L) 1 (T + 1) = -qre L 1 T ∧ qre (0 :: L) 2 (T + 1) = -qre L 2 T
  | 0 => by simp [qre, qim]
  | T + 1 => by
    obtain ⟨h1, h2, h3⟩ := q_move L T
    have s1 : qre (0 :: L) 1 (T + 1 + 1) = qre (0 :: L) 1 (T + 1) + trR (1 * (T + 1) % 4) * (L[T]?).getD 0 := rfl
    have s2 : qim (0 :: L) 1 (T + 1 + 1) = qim (0 :: L) 1 (T + 1) + trI (1 * (T + 1) % 4) * (L[T]?).getD 0 := rfl
    have s3 : qre (0 :: L) 2 (T + 1 + 1) = qre (0 :: L) 2 (T + 1) + trR (2 * (T + 1) % 4) * (L[T]?).getD 0 := rfl
    rw [s1, s2, s3, h1, h2, h3]
    simp only [qre, qim]
    generalize (L[T]?).getD 0 = x
    generalize qre L 1 T = a
    generalize qim L 1 T = b
    generalize qre L 2 T = d
    rcases (show T % 4 = 0 ∨ T % 4 = 1 ∨ T % 4 = 2 ∨ T % 4 = 3 by omega) with h | h | h | h
    · have a1 : (T + 1) % 4 = 1 := by omega
      have a2 : 2 * (T + 1) % 4 = 2 := by omega
      have a3 : 2 * T % 4 = 0 := by omega
      rw [Nat.one_mul, Nat.one_mul, h, a1, a2, a3]; refine ⟨?_, ?_, ?_⟩ <;> simp only [tr_all] <;> omega
    · have a1 : (T + 1) % 4 = 2 := by omega
      have a2 : 2 * (T + 1) % 4 = 0 := by omega
      have a3 : 2 * T % 4 = 2 := by omega
      rw [Nat.one_mul, Nat.one_mul, h, a1, a2, a3]; refine ⟨?_, ?_, ?_⟩ <;> simp only [tr_all] <;> omega
    · have a1 : (T + 1) % 4 = 3 := by omega
      have a2 : 2 * (T + 1) % 4 = 2 := by omega
      have a3 : 2 * T % 4 = 0 := by omega
      rw [Nat.one_mul, Nat.one_mul, h, a1, a2, a3]; refine ⟨?_, ?_, ?_⟩ <;> simp only [tr_all] <;> omega
    · have a1 : (T + 1) % 4 = 0 := by omega
      have a2 : 2 * (T + 1) % 4 = 0 := by omega
      have a3 : 2 * T % 4 = 2 := by omega
      rw [Nat.one_mul, Nat.one_mul, h, a1, a2, a3]; refine ⟨?_, ?_, ?_⟩ <;> simp only [tr_all] <;> omega
/-- what the law asks of the quarters of a list and of the same with a 0 ahead -/
theorem q_law {L : List Int} (hL : HOk L) (hl : L.length ≤ 4096) : (dbl.order (qf L 0).1 (floatOfInt .f64 (smL L)) = some .eq ∧ dbl.order (qf L 0).2 0 = some .eq) ∧ (dbl.order (qf L 3).1 (qf L 1).1 = some .eq ∧ dbl.order (qf L 3).2 (Op.negFloat .f64 (qf L 1).2) = some .eq ∧ dbl.order (qf L 2).2 0 = some .eq) ∧ dbl.order (qf (0 :: L) 1).1 (qf L 1).2 = some .eq ∧ dbl.order (qf (0 :: L) 1).2 (Op.negFloat .f64 (qf L 1).1) = some .eq ∧ dbl.order (qf (0 :: L) 2).1 (Op.negFloat .f64 (qf L 2).1) = some .eq := by
  have b1 := q_bound hL 1 L.length
  have b2 := q_bound hL 2 L.length
  have z : ∀ {x : Nat}, x = floatOfInt .f64 0 → dbl.order x 0 = some .eq := by
    intro x hx
    rw [hx]
    decide +kernel
  obtain ⟨t1, t2⟩ := q_three L L.length
  obtain ⟨u1, u2, u3⟩ := q_move L L.length
  have z0 := (q_zero L L.length).1
  rw [List.take_length] at z0
  unfold qf
  simp only [List.length_cons, t1, t2, u1, u2, u3, z0]
  exact ⟨⟨order_self (intf_nan _), z (by rw [(q_zero L L.length).2])⟩, ⟨order_self (intf_nan _), order_neg _ (by omega), z (by rw [q_two])⟩, order_self (intf_nan _), order_neg _ (by omega), order_neg _ (by omega)⟩
end Go.Proofs.YtgnnopjkbmbjbaaDoor
