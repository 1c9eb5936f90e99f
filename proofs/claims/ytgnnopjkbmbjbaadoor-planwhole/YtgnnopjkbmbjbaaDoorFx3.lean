/-
  Floats, pure: numbers that are not below 0 and at most some whole number; products, sums, order; whole numbers; ceil and int.
-/
import Derived.Test.YtgnnopjkbmbjbaaDoorFx2
namespace Go.Proofs.YtgnnopjkbmbjbaaDoor
open Go.RowKit
set_option maxRecDepth 100000
set_option linter.unusedSimpArgs false

/-- 1 in units of 2 ^ -1074: kept folded -/
def U : Nat := sc 1 0 (-1074)
theorem U_pos : 0 < U := by unfold U sc; exact Nat.mul_pos (by omega) (two_pos _)
theorem sc_U (c : Nat) : sc c 0 (-1074) = c * U := by unfold U sc; rw [Nat.one_mul]
/-- not below 0, at most c -/
def NN (b c : Nat) : Prop := ∃ s v, FV b s v ∧ (s = true → v = 0) ∧ v ≤ c * U
theorem NN.mono {b c d : Nat} (h : NN b c) (hd : c ≤ d) : NN b d := by
  obtain ⟨s, v, h1, h2, h3⟩ := h
  exact ⟨s, v, h1, h2, Nat.le_trans h3 (Nat.mul_le_mul_right _ hd)⟩
theorem NN.fin {b c : Nat} (h : NN b c) : finB b = true := by
  obtain ⟨s, v, ⟨m, e, h1, _⟩, _⟩ := h
  unfold finB
  rw [h1]
theorem sc_nil (i b : Int) : sc 0 i b = 0 := Nat.zero_mul _
theorem sc_zero {m : Nat} {i b : Int} (h : sc m i b = 0) : m = 0 := by
  unfold sc at h
  rcases Nat.eq_zero_or_pos m with h0 | h0
  · exact h0
  · have := Nat.mul_pos h0 (two_pos (i - b).toNat); omega
theorem sc_mul (m n : Nat) {i j b c : Int} (h1 : b ≤ i) (h2 : c ≤ j) : sc (m * n) (i + j) (b + c) = sc m i b * sc n j c := by
  unfold sc
  have : (i + j - (b + c)).toNat = (i - b).toNat + (j - c).toNat := by omega
  rw [this, Nat.pow_add, Nat.mul_mul_mul_comm]
theorem mul_NN {a b c d : Nat} (ha : NN a c) (hb : NN b d) (hcd : c * d < 9007199254740992) : ∃ r, dbl.mul a b = some r ∧ NN r (c * d) := by
  obtain ⟨s, v, ⟨m, i, h1, h2, rfl⟩, h3, h4⟩ := ha
  obtain ⟨t, u, ⟨n, j, k1, k2, rfl⟩, k3, k4⟩ := hb
  refine ⟨dbl.nearest (s ^^ t) (m * n) (i + j), ?_, ?_⟩
  · show ((rdF a).product (rdF b)).map dbl.write = _
    rw [h1, k1]
    rfl
  · have hle : sc (m * n) (i + j) (-1074 + -1074) ≤ sc (c * d) 0 (-1074 + -1074) := by
      rw [sc_mul m n h2 k2, show (0 : Int) = 0 + 0 from rfl, sc_mul c d (by omega) (by omega), sc_U, sc_U]
      exact Nat.mul_le_mul h4 k4
    obtain ⟨v, hv, hvl, _⟩ := near_le (s ^^ t) (b := -1074 + -1074) hcd (by omega) (by omega) (by omega) (by omega) (by omega) hle
    refine ⟨_, v, hv, fun hs => ?_, by rw [← sc_U]; exact hvl⟩
    have hz : m * n = 0 := by
      cases s <;> cases t <;> simp at hs
      · rw [sc_zero (k3 rfl), Nat.mul_zero]
      · rw [sc_zero (h3 rfl), Nat.zero_mul]
    rw [hz] at hv
    have := near_eq (s ^^ t) (m := 0) (c := 0) (i := i + j) (q := 0) (b := -1074 + -1074) (by omega) (by omega) (by omega) (by omega) (by omega) (by omega) (by rw [sc_nil, sc_nil])
    rw [(hv.same this).2]
    exact sc_nil _ _
theorem signed_NN {s : Bool} {m k : Nat} (h : s = true → m = 0) : Ieee.signed s m k = ((m * 2 ^ k : Nat) : Int) := by
  unfold Ieee.signed
  rw [Nat.shiftLeft_eq]
  cases s
  · simp
  · rw [h rfl]; simp
theorem add_NN {a b c d : Nat} (ha : NN a c) (hb : NN b d) (hcd : c + d < 9007199254740992) : ∃ r, dbl.add a b = some r ∧ NN r (c + d) := by
  obtain ⟨s, v, ⟨m, i, h1, h2, rfl⟩, h3, h4⟩ := ha
  obtain ⟨t, u, ⟨n, j, k1, k2, rfl⟩, k3, k4⟩ := hb
  have hs := signed_NN (k := (i - min i j).toNat) (fun h => sc_zero (h3 h))
  have ht := signed_NN (k := (j - min i j).toNat) (fun h => sc_zero (k3 h))
  refine ⟨dbl.nearest (if sc m i (min i j) + sc n j (min i j) = 0 then s && t else false) (sc m i (min i j) + sc n j (min i j)) (min i j), ?_, ?_⟩
  · show ((rdF a).sum (rdF b)).map dbl.write = _
    rw [h1, k1]
    simp only [Ieee.Datum.sum, hs, ht, Option.map_some, Option.some.injEq]
    show dbl.nearest _ _ _ = _
    have e1 : ((m * 2 ^ (i - min i j).toNat : Nat) : Int) + ((n * 2 ^ (j - min i j).toNat : Nat) : Int) = ((sc m i (min i j) + sc n j (min i j) : Nat) : Int) := by unfold sc; omega
    rw [e1]
    congr 1
    by_cases h0 : sc m i (min i j) + sc n j (min i j) = 0
    · rw [if_pos h0, if_pos (by omega)]
    · rw [if_neg h0, if_neg (by omega)]
      exact decide_eq_false (by omega)
  · have e2 : sc (sc m i (min i j) + sc n j (min i j)) (min i j) (-1074) = sc m i (-1074) + sc n j (-1074) := by
      rw [sc_down m (show -1074 ≤ min i j by omega) (show min i j ≤ i by omega), sc_down n (show -1074 ≤ min i j by omega) (show min i j ≤ j by omega), ← Nat.add_mul]
      rfl
    have hle : sc (sc m i (min i j) + sc n j (min i j)) (min i j) (-1074) ≤ sc (c + d) 0 (-1074) := by
      rw [e2, sc_U, Nat.add_mul]
      exact Nat.add_le_add h4 k4
    obtain ⟨v, hv, hvl, _⟩ := near_le (if sc m i (min i j) + sc n j (min i j) = 0 then s && t else false) (b := -1074) hcd (by omega) (by omega) (by omega) (by omega) (by omega) hle
    refine ⟨_, v, hv, fun hsg => ?_, by rw [← sc_U]; exact hvl⟩
    by_cases h0 : sc m i (min i j) + sc n j (min i j) = 0
    · rw [h0] at hv
      have := near_eq (if (0 : Nat) = 0 then s && t else false) (m := 0) (c := 0) (i := min i j) (q := 0) (b := -1074) (by omega) (by omega) (by omega) (by omega) (by omega) (by omega) (by rw [sc_nil, sc_nil])
      rw [(hv.same this).2]
      exact sc_nil _ _
    · rw [if_neg h0] at hsg
      cases hsg
/-- a whole number made a float -/
theorem int_FV (n : Nat) (h : n < 9007199254740992) : FV (floatOfInt .f64 (n : Int)) false (n * U) := by
  have e : floatOfInt .f64 (n : Int) = dbl.nearest false n 0 := by
    show dbl.nearest (decide ((n : Int) < 0)) (n : Int).natAbs 0 = _
    rw [decide_eq_false (by omega), Int.natAbs_natCast]
  rw [e, ← sc_U]
  exact near_eq false (b := -1074) h (by omega) (by omega) (by omega) (by omega) (by omega) rfl
theorem int_NN (n : Nat) (h : n < 9007199254740992) : NN (floatOfInt .f64 (n : Int)) n := ⟨false, _, int_FV n h, fun h => (by cases h), Nat.le_refl _⟩
/-- with its sign -/
def sg (s : Bool) (v : Nat) : Int := if s then -(v : Int) else v
theorem cmp_scale (x y : Int) (k : Nat) (hk : 0 < k) : compare (x * (k : Int)) (y * (k : Int)) = compare x y := by
  have hk' : (0 : Int) < (k : Int) := by omega
  rcases Int.lt_trichotomy x y with h | h | h
  · rw [Int.compare_eq_lt.2 h, Int.compare_eq_lt.2 (Int.mul_lt_mul_of_pos_right h hk')]
  · rw [h]; simp
  · rw [Int.compare_eq_gt.2 h, Int.compare_eq_gt.2 (Int.mul_lt_mul_of_pos_right h hk')]
theorem order_FV {a b : Nat} {s t : Bool} {v u : Nat} (ha : FV a s v) (hb : FV b t u) : dbl.order a b = some (compare (sg s v) (sg t u)) := by
  obtain ⟨m, i, h1, h2, rfl⟩ := ha
  obtain ⟨n, j, k1, k2, rfl⟩ := hb
  show (rdF a).order (rdF b) = _
  rw [h1, k1]
  simp only [Ieee.Datum.order]
  congr 1
  have e1 : ∀ (s : Bool) (m : Nat) (i : Int), min i j ≤ i → True := fun _ _ _ _ => trivial
  clear e1
  have key : ∀ (s : Bool) (m : Nat) (i0 B : Int), -1074 ≤ B → B ≤ i0 → sg s (sc m i0 (-1074)) = Ieee.signed s m (i0 - B).toNat * ((2 ^ (B - -1074).toNat : Nat) : Int) := by
    intro s m i0 B hB hBi
    rw [sc_down m hB hBi]
    unfold Ieee.signed sg sc
    rw [Nat.shiftLeft_eq]
    cases s
    · simp
    · simp [Int.neg_mul]
  rw [key s m i (min i j) (by omega) (by omega), key t n j (min i j) (by omega) (by omega), cmp_scale _ _ _ (two_pos _)]

/-- its whole part, and whether something is left -/
theorem parts_of {m : Nat} {e : Int} (he : -1074 ≤ e) : (m <<< e.toNat) / 2 ^ (-e).toNat = sc m e (-1074) / U ∧ ((m <<< e.toNat) % 2 ^ (-e).toNat = 0 ↔ sc m e (-1074) % U = 0) := by
  have hU : U = 2 ^ (0 - -1074 : Int).toNat := by unfold U sc; rw [Nat.one_mul]
  generalize hu : (0 - -1074 : Int).toNat = u at hU
  have hu2 : (u : Int) = 1074 := by omega
  rw [Nat.shiftLeft_eq]
  rcases Int.le_total 0 e with h | h
  · have e1 : (-e).toNat = 0 := by omega
    have e2 : sc m e (-1074) = m * 2 ^ e.toNat * U := by
      unfold sc
      rw [hU, Nat.mul_assoc, ← Nat.pow_add]
      congr 2
      omega
    rw [e1, e2, Nat.pow_zero, Nat.div_one, Nat.mul_div_cancel _ U_pos, Nat.mod_one, Nat.mul_mod_left]
    exact ⟨rfl, Iff.rfl⟩
  · have e1 : e.toNat = 0 := by omega
    have e2 : U = 2 ^ (-e).toNat * 2 ^ (e - -1074).toNat := by
      rw [hU, ← Nat.pow_add]
      congr 1
      omega
    have hk := two_pos (e - -1074).toNat
    rw [e1, Nat.pow_zero, Nat.mul_one]
    unfold sc
    rw [e2, Nat.mul_div_mul_right _ _ hk, Nat.mul_mod_mul_right]
    refine ⟨rfl, ?_⟩
    constructor
    · intro h0; rw [h0, Nat.zero_mul]
    · intro h0
      rcases Nat.eq_zero_or_pos (m % 2 ^ (-e).toNat) with h1 | h1
      · exact h1
      · have := Nat.mul_pos h1 hk; omega
theorem cut_zero (s : Bool) (n d : Nat) : Ieee.Toward.zero.cut s n d = n / 2 ^ d := by
  unfold Ieee.Toward.cut
  simp only [Bool.toNat_false, Nat.add_zero]
  rw [Nat.one_shiftLeft]
  rcases Nat.le_total d (n.log2 + 2) with h | h
  · rw [Nat.min_eq_left h]
  · rw [Nat.min_eq_right h]
    have hn : n < 2 ^ (n.log2 + 1) := Nat.lt_log2_self
    have h1 : 2 ^ (n.log2 + 2) = 2 * 2 ^ (n.log2 + 1) := by rw [Nat.pow_succ, Nat.mul_comm]
    have h2 : 2 ^ (n.log2 + 2) ≤ 2 ^ d := Nat.pow_le_pow_right (by omega) h
    rw [Nat.div_eq_of_lt (by omega), Nat.div_eq_of_lt (by omega)]
theorem cut_up (n d : Nat) : Ieee.Toward.up.cut false n d = n / 2 ^ d + (n % 2 ^ d != 0).toNat := by
  unfold Ieee.Toward.cut
  simp only [Bool.not_false, Bool.true_and]
  rw [Nat.one_shiftLeft]
  rcases Nat.le_total d (n.log2 + 2) with h | h
  · rw [Nat.min_eq_left h]
  · rw [Nat.min_eq_right h]
    have hn : n < 2 ^ (n.log2 + 1) := Nat.lt_log2_self
    have h1 : 2 ^ (n.log2 + 2) = 2 * 2 ^ (n.log2 + 1) := by rw [Nat.pow_succ, Nat.mul_comm]
    have h2 : 2 ^ (n.log2 + 2) ≤ 2 ^ d := Nat.pow_le_pow_right (by omega) h
    rw [Nat.div_eq_of_lt (by omega), Nat.div_eq_of_lt (show n < 2 ^ d by omega), Nat.mod_eq_of_lt (by omega), Nat.mod_eq_of_lt (show n < 2 ^ d by omega)]
theorem cut_up_neg (d : Nat) : Ieee.Toward.up.cut true 0 d = 0 := by
  unfold Ieee.Toward.cut
  simp
/-- int(x) -/
theorem int_of {b s : _} {v : Nat} (h : FV b s v) (hs : s = true → v = 0) (hv : v ≤ 9007199254740990 * U) : floatToIntVal .f64 b .i64 = some ((v / U : Nat) : Int) := by
  obtain ⟨m, e, h1, h2, rfl⟩ := h
  have hr : (FloatKind.f64.decode b) = .number s m e := h1
  have hb : sc m e (-1074) / U ≤ 9007199254740990 := Nat.div_le_of_le_mul (by rw [Nat.mul_comm]; exact hv)
  unfold floatToIntVal
  rw [hr]
  have e1 : (Ieee.Datum.number s m e).toInt .zero = some ((sc m e (-1074) / U : Nat) : Int) := by
    unfold Ieee.Datum.toInt
    simp only [Ieee.Datum.integral, cut_zero, (parts_of h2).1]
    congr 1
    unfold Ieee.signed
    rw [Nat.shiftLeft_zero]
    cases s
    · simp
    · rw [hs rfl, Nat.zero_div]; simp
  rw [e1]
  simp only
  rw [if_pos]
  generalize sc m e (-1074) / U = q at *
  show (-9223372036854775808 : Int) ≤ _ ∧ _ ≤ (9223372036854775807 : Int)
  omega
/-- the least whole number that is not below -/
def cei (v : Nat) : Nat := v / U + (v % U != 0).toNat
theorem cei_le {v c : Nat} (h : v ≤ c * U) : cei v ≤ c := by
  have hq : v / U ≤ c := Nat.div_le_of_le_mul (by rw [Nat.mul_comm]; exact h)
  have hdm := Nat.div_add_mod v U
  have hU := U_pos
  unfold cei
  rcases Nat.lt_or_ge (v / U) c with hlt | hge
  · have : (v % U != 0).toNat ≤ 1 := Bool.toNat_le _
    omega
  · have e : v / U = c := by omega
    rw [e, Nat.mul_comm] at hdm
    have r0 : v % U = 0 := by omega
    rw [r0, e]
    simp
/-- Ceil(x) -/
theorem ceil_of {b s : _} {v : Nat} (h : FV b s v) (hs : s = true → v = 0) (hv : v ≤ 9007199254740990 * U) : FV (dbl.write ((rdF b).integral .up)) s (cei v * U) := by
  obtain ⟨m, e, h1, h2, rfl⟩ := h
  have hc := cei_le hv
  rw [h1]
  have e1 : Ieee.Toward.up.cut s (m <<< e.toNat) (-e).toNat = cei (sc m e (-1074)) := by
    cases s
    · rw [cut_up, (parts_of h2).1]
      unfold cei
      have := (parts_of (m := m) h2).2
      congr 2
      by_cases h0 : sc m e (-1074) % U = 0
      · rw [this.2 h0, h0]
      · rw [bne_iff_ne.2 h0, bne_iff_ne.2 (fun h => h0 (this.1 h))]
    · have hm := sc_zero (hs rfl)
      rw [hm, sc_nil, Nat.zero_shiftLeft, cut_up_neg]
      unfold cei
      simp
  show FV (dbl.nearest s _ 0) s _
  rw [e1, ← sc_U]
  exact near_eq s (b := -1074) (by omega) (by omega) (by omega) (by omega) (by omega) (by omega) rfl
end Go.Proofs.YtgnnopjkbmbjbaaDoor
