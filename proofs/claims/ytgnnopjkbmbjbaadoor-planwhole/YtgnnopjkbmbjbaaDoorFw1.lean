/-
  Floats, pure: whole numbers that come out exactly: smoothing by 1 and by a half, the mean of one number, its deviation; quarters turned.
-/
import Derived.Test.YtgnnopjkbmbjbaaDoorFq1
namespace Go.Proofs.YtgnnopjkbmbjbaaDoor
open Go.RowKit
set_option maxRecDepth 100000
set_option linter.unusedSimpArgs false

/-- b stands for the whole number n (0 of either sign) -/
def WH (b n : Nat) : Prop := ∃ s, FV b s (n * U) ∧ (s = true → n = 0)
theorem WH.order {b n : Nat} (h : WH b n) (hn : n < 9007199254740992) : dbl.order b (floatOfInt .f64 (n : Int)) = some .eq := by
  obtain ⟨s, h1, h2⟩ := h
  rw [order_FV h1 (int_FV n hn)]
  cases s
  · simp
  · rw [h2 rfl]; simp [sg]
theorem WH.int (n : Nat) (hn : n < 9007199254740992) : WH (floatOfInt .f64 (n : Int)) n := ⟨false, int_FV n hn, fun h => by cases h⟩
/-- 0 times what is finite -/
theorem mul_nil {a b : Nat} {s t : Bool} {u : Nat} (ha : FV a s 0) (hb : FV b t u) : ∃ r, dbl.mul a b = some r ∧ FV r (s ^^ t) (0 * U) := by
  obtain ⟨m, i, h1, h2, e1⟩ := ha
  obtain ⟨n, j, k1, k2, _⟩ := hb
  refine ⟨_, mul_form h1 k1, ?_⟩
  rw [sc_zero e1, Nat.zero_mul, ← sc_U]
  exact near_eq (s ^^ t) (b := min (i + j) (-1074)) (by omega) (by omega) (by omega) (by omega) (by omega) (by omega) (by rw [sc_nil, sc_nil])
/-- smoothed by 1 -/
theorem stO_one {p c n : Nat} (hp : WH p c) (hn : n ≤ 1099511627776) : WH (stO 4607182418800017408 0 p (n : Int)) n := by
  obtain ⟨sp, fp, _⟩ := hp
  obtain ⟨a, h1, f1⟩ := mul_exact one_FV (int_FV n (by omega)) (by omega)
  obtain ⟨b, h2, f2⟩ := mul_nil zero_FV fp
  rw [Nat.one_mul] at f1
  obtain ⟨r, q, h3, f3, _⟩ := add_exact f1 f2 (fun _ => rfl) (by omega)
  have e : stO 4607182418800017408 0 p (n : Int) = r := by unfold stO; simp [h1, h2, h3]
  rw [e]
  rw [Nat.add_zero] at f3
  cases q
  · exact ⟨false, f3, fun h => by cases h⟩
  · refine ⟨true, f3, fun _ => ?_⟩
    obtain ⟨m, i, r1, i1, e1⟩ := f1
    obtain ⟨k, j, r2, i2, e2⟩ := f2
    rw [Nat.zero_mul] at e2
    rw [add_form r1 r2 (fun h => by cases h) (fun _ => sc_zero e2)] at h3
    cases h3
    obtain ⟨x, hx⟩ : ∃ x, x = (if sc m i (min i j) + sc k j (min i j) = 0 then false && (false ^^ sp) else false) := ⟨_, rfl⟩
    rw [← hx] at f3
    have hq := near_eq x (m := sc m i (min i j) + sc k j (min i j)) (i := min i j) (c := n) (q := 0) (b := -1074) (by omega) (by omega) (by omega) (by omega) (by omega) (by omega) (by rw [add_sc i1 i2, e1, e2, sc_U, Nat.add_zero])
    have := (f3.same hq).1
    rw [hx] at this
    simp at this
/-- a half -/
theorem half_FV : FV 4602678819172646912 false (sc 1 (-1) (-1074)) := by
  have hr : rdF 4602678819172646912 = .number false 4503599627370496 (-53) := by decide +kernel
  refine ⟨4503599627370496, -53, hr, by omega, ?_⟩
  unfold sc
  decide +kernel
theorem half_of {p c : Nat} (hp : WH p c) (hc : c < 9007199254740992) : ∃ r s, dbl.mul 4602678819172646912 p = some r ∧ FV r s (sc c (-1) (-1074)) ∧ (s = true → c = 0) := by
  obtain ⟨s, ⟨n, j, k1, k2, e2⟩, hs⟩ := hp
  obtain ⟨m, i, h1, h2, e1⟩ := half_FV
  refine ⟨_, (false ^^ s), mul_form h1 k1, ?_, fun h => hs (by simpa using h)⟩
  refine near_eq (false ^^ s) (b := -1074 + -1074) hc (by omega) (by omega) (by omega) (by omega) (by omega) ?_
  rw [sc_mul m n h2 k2, e1, e2, ← sc_U, ← sc_mul 1 c (by omega) (by omega), Nat.one_mul]
  rfl
theorem stO_half {p c : Nat} (hp : WH p c) (hc : c < 4503599627370496) : WH (stO 4602678819172646912 4602678819172646912 p (c : Int)) c := by
  obtain ⟨a, s, h1, f1, z1⟩ := half_of (WH.int c (by omega)) (by omega)
  obtain ⟨b, t, h2, f2, z2⟩ := half_of hp (by omega)
  obtain ⟨m, i, r1, i1, e1⟩ := f1
  obtain ⟨k, j, r2, i2, e2⟩ := f2
  have h3 := add_form r1 r2 (fun h => by have := z1 h; subst this; rw [sc_nil] at e1; exact sc_zero e1) (fun h => by have := z2 h; subst this; rw [sc_nil] at e2; exact sc_zero e2)
  obtain ⟨x, hx⟩ : ∃ x, x = (if sc m i (min i j) + sc k j (min i j) = 0 then s && t else false) := ⟨_, rfl⟩
  rw [← hx] at h3
  have e : stO 4602678819172646912 4602678819172646912 p (c : Int) = dbl.nearest x (sc m i (min i j) + sc k j (min i j)) (min i j) := by unfold stO; simp [h1, h2, h3]
  rw [e]
  have hd : sc c (-1) (-1074) + sc c (-1) (-1074) = sc c 0 (-1074) := by
    have ex : ((0 : Int) - -1074).toNat = ((-1 : Int) - -1074).toNat + 1 := by decide
    unfold sc
    rw [ex]
    generalize ((-1 : Int) - -1074).toNat = x
    rw [Nat.pow_succ, ← Nat.mul_assoc, Nat.mul_two]
  have hq := near_eq x (m := sc m i (min i j) + sc k j (min i j)) (i := min i j) (c := c) (q := 0) (b := -1074) (by omega) (by omega) (by omega) (by omega) (by omega) (by omega) (by rw [add_sc i1 i2, e1, e2, hd])
  rw [sc_U] at hq
  refine ⟨x, hq, fun h => ?_⟩
  rw [h] at hx
  by_cases h0 : sc m i (min i j) + sc k j (min i j) = 0
  · rw [if_pos h0] at hx
    have : s = true := by cases s <;> simp at hx ⊢
    exact z1 this
  · rw [if_neg h0] at hx; cases hx
theorem one_less : dbl.sub 4607182418800017408 4607182418800017408 = some 0 := by decide +kernel
theorem half_less : dbl.sub 4607182418800017408 4602678819172646912 = some 4602678819172646912 := by decide +kernel
theorem wOk_one : wOk 4607182418800017408 = true := by decide +kernel
theorem wOk_half : wOk 4602678819172646912 = true := by decide +kernel
/-- smoothed by what leaves each number as it is -/
theorem smO_same {w rest : Nat} {L : List Int} (hL : HOk L) (hst : ∀ (p : Nat) (k : Nat) (h : k + 1 < L.length), WH p (L[k]'(by omega)).toNat → WH (stO w rest p L[k + 1]) L[k + 1].toNat) :
    ∀ (k j : Nat) (hj : j < k) (hk : k ≤ L.length), ∃ b, (smO w rest (L.take k))[j]? = some b ∧ WH b (L[j]'(by omega)).toNat := by
  intro k
  induction k with
  | zero => intro j hj; exact absurd hj (Nat.not_lt_zero j)
  | succ k ih =>
    intro j hj hk
    have hl := smO_len w rest L k (by omega)
    rw [smO_take w rest L k (by omega)]
    by_cases h : j < k
    · rw [List.getElem?_append_left (by omega)]
      exact ih j h (by omega)
    · obtain rfl : j = k := by omega
      rw [List.getElem?_append_right (by omega), hl, Nat.sub_self]
      refine ⟨_, rfl, ?_⟩
      rcases j with _ | j
      · have : smO w rest (L.take 0) = [] := by simp [smO]
        rw [this]
        obtain ⟨h0, h1⟩ := hL _ (List.getElem_mem (show 0 < L.length by omega))
        obtain ⟨n, hn⟩ := Int.eq_ofNat_of_zero_le h0
        show WH (floatOfInt .f64 L[0]) L[0].toNat
        rw [hn]
        rw [hn] at h1
        exact WH.int n (by omega)
      · obtain ⟨p, hp, wp⟩ := ih j (by omega) (by omega)
        have hla : (smO w rest (L.take (j + 1))).getLast? = some p := by rw [List.getLast?_eq_getElem?, hl]; exact hp
        unfold smN
        rw [hla]
        exact hst p j (by omega) wp
theorem smO_one {L : List Int} (hL : HOk L) (j : Nat) (hj : j < L.length) : ∃ b, (smO 4607182418800017408 0 L)[j]? = some b ∧ dbl.order b (floatOfInt .f64 L[j]) = some .eq := by
  obtain ⟨b, hb, wb⟩ := smO_same (w := 4607182418800017408) (rest := 0) hL (fun p k h hp => by
    obtain ⟨h0, h1⟩ := hL _ (List.getElem_mem h)
    obtain ⟨n, hn⟩ := Int.eq_ofNat_of_zero_le h0
    rw [hn]
    rw [hn] at h1
    exact stO_one hp (by omega)) L.length j hj (Nat.le_refl _)
  rw [List.take_length] at hb
  refine ⟨b, hb, ?_⟩
  obtain ⟨h0, h1⟩ := hL _ (List.getElem_mem hj)
  obtain ⟨n, hn⟩ := Int.eq_ofNat_of_zero_le h0
  rw [hn] at wb h1 ⊢
  exact wb.order (by omega)
theorem smO_half {c n : Nat} (hc : c ≤ 255) (j : Nat) (hj : j < n) : ∃ b, (smO 4602678819172646912 4602678819172646912 (List.replicate n (c : Int)))[j]? = some b ∧ dbl.order b (floatOfInt .f64 (c : Int)) = some .eq := by
  have hL : HOk (List.replicate n (c : Int)) := fun x hx => by rw [List.eq_of_mem_replicate hx]; omega
  obtain ⟨b, hb, wb⟩ := smO_same (w := 4602678819172646912) (rest := 4602678819172646912) hL (fun p k h hp => by
    simp only [List.getElem_replicate, Int.toNat_natCast] at hp ⊢
    exact stO_half hp (by omega)) n j hj (by simp)
  rw [List.take_of_length_le (by simp)] at hb
  refine ⟨b, hb, ?_⟩
  simp only [List.getElem_replicate, Int.toNat_natCast] at wb
  exact wb.order (by omega)
end Go.Proofs.YtgnnopjkbmbjbaaDoor
