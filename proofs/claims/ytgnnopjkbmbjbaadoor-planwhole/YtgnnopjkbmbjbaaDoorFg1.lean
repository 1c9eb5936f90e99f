/-
  Floats, pure: products and sums grow; Points of whole numbers.
-/
import Derived.Test.YtgnnopjkbmbjbaaDoorFp0
namespace Go.Proofs.YtgnnopjkbmbjbaaDoor
open Go.RowKit
set_option maxRecDepth 100000
set_option linter.unusedSimpArgs false

theorem mul_form {a b : Nat} {s t : Bool} {m n : Nat} {i j : Int} (h1 : rdF a = .number s m i) (k1 : rdF b = .number t n j) : dbl.mul a b = some (dbl.nearest (s ^^ t) (m * n) (i + j)) := by
  show ((rdF a).product (rdF b)).map dbl.write = _
  rw [h1, k1]
  rfl
/-- a product's value, so that two can be held against each other -/
theorem mul_mono {a a' b r r' c d v v' u w x : Nat} {s s' t p p' : Bool} (ha : FV a s v) (ha' : FV a' s' v') (hb : FV b t u) (hv : v ≤ v') (hc : v' ≤ c * U) (hd : u ≤ d * U) (hcd : c * d < 9007199254740992)
    (hr : dbl.mul a b = some r) (hr' : dbl.mul a' b = some r') (hw : FV r p w) (hx : FV r' p' x) : w ≤ x := by
  obtain ⟨m, i, h1, h2, rfl⟩ := ha
  obtain ⟨m', i', h1', h2', rfl⟩ := ha'
  obtain ⟨n, j, k1, k2, rfl⟩ := hb
  rw [mul_form h1 k1] at hr
  rw [mul_form h1' k1] at hr'
  cases hr
  cases hr'
  have hle' : sc (m' * n) (i' + j) (-1074 + -1074) ≤ sc (c * d) 0 (-1074 + -1074) := by
    rw [sc_mul m' n h2' k2, show (0 : Int) = 0 + 0 from rfl, sc_mul c d (by omega) (by omega), sc_U, sc_U]
    exact Nat.mul_le_mul hc hd
  have hmm : sc (m * n) (i + j) (-1074 + -1074) ≤ sc (m' * n) (i' + j) (-1074 + -1074) := by
    rw [sc_mul m n h2 k2, sc_mul m' n h2' k2]
    exact Nat.mul_le_mul_right _ hv
  obtain ⟨w0, hw0, _, l1⟩ := near_le (s ^^ t) (b := -1074 + -1074) hcd (by omega) (by omega) (by omega) (by omega) (by omega) (Nat.le_trans hmm hle')
  obtain ⟨x0, hx0, _, l2⟩ := near_le (s' ^^ t) (b := -1074 + -1074) hcd (by omega) (by omega) (by omega) (by omega) (by omega) hle'
  rw [(hw.same hw0).2, (hx.same hx0).2]
  exact near_mono (b := -1074 + -1074) (by omega) (by omega) (by omega) hmm hw0 hx0 l1 l2
/-- a product of whole numbers is exact -/
theorem mul_exact {a b c d : Nat} (ha : FV a false (c * U)) (hb : FV b false (d * U)) (hcd : c * d < 9007199254740992) : ∃ r, dbl.mul a b = some r ∧ FV r false (c * d * U) := by
  obtain ⟨m, i, h1, h2, e1⟩ := ha
  obtain ⟨n, j, k1, k2, e2⟩ := hb
  refine ⟨_, mul_form h1 k1, ?_⟩
  rw [← sc_U]
  refine near_eq false (b := -1074 + -1074) hcd (by omega) (by omega) (by omega) (by omega) (by omega) ?_
  rw [sc_mul m n h2 k2, show (0 : Int) = 0 + 0 from rfl, sc_mul c d (by omega) (by omega), sc_U, sc_U, e1, e2]
theorem add_form {a b : Nat} {s t : Bool} {m n : Nat} {i j : Int} (h1 : rdF a = .number s m i) (k1 : rdF b = .number t n j) (hs : s = true → m = 0) (ht : t = true → n = 0) :
    dbl.add a b = some (dbl.nearest (if sc m i (min i j) + sc n j (min i j) = 0 then s && t else false) (sc m i (min i j) + sc n j (min i j)) (min i j)) := by
  have hs := signed_NN (k := (i - min i j).toNat) hs
  have ht := signed_NN (k := (j - min i j).toNat) ht
  show ((rdF a).sum (rdF b)).map dbl.write = _
  rw [h1, k1]
  simp only [Ieee.Datum.sum, hs, ht, Option.map_some, Option.some.injEq]
  show dbl.nearest _ _ _ = _
  have e1 : ((m * 2 ^ (i - min i j).toNat : Nat) : Int) + ((n * 2 ^ (j - min i j).toNat : Nat) : Int) = ((sc m i (min i j) + sc n j (min i j) : Nat) : Int) := by unfold sc; omega
  rw [e1]
  congr 1
  by_cases h0 : sc m i (min i j) + sc n j (min i j) = 0
  · rw [if_pos h0, if_pos (by omega)]
  · rw [if_neg h0, if_neg (by omega)]
    exact decide_eq_false (by omega)
theorem add_sc {m n : Nat} {i j : Int} (h2 : -1074 ≤ i) (k2 : -1074 ≤ j) : sc (sc m i (min i j) + sc n j (min i j)) (min i j) (-1074) = sc m i (-1074) + sc n j (-1074) := by
  rw [sc_down m (show -1074 ≤ min i j by omega) (show min i j ≤ i by omega), sc_down n (show -1074 ≤ min i j by omega) (show min i j ≤ j by omega), ← Nat.add_mul]
  rfl
theorem add_mono {a a' b b' r r' c v v' u u' w x : Nat} {s s' t t' p p' : Bool} (ha : FV a s v) (ha' : FV a' s' v') (hb : FV b t u) (hb' : FV b' t' u') (hs : s = true → v = 0) (hs' : s' = true → v' = 0) (ht : t = true → u = 0) (ht' : t' = true → u' = 0)
    (hv : v ≤ v') (hu : u ≤ u') (hc : v' + u' ≤ c * U) (hcd : c < 9007199254740992)
    (hr : dbl.add a b = some r) (hr' : dbl.add a' b' = some r') (hw : FV r p w) (hx : FV r' p' x) : w ≤ x := by
  obtain ⟨m, i, h1, h2, rfl⟩ := ha
  obtain ⟨m', i', h1', h2', rfl⟩ := ha'
  obtain ⟨n, j, k1, k2, rfl⟩ := hb
  obtain ⟨n', j', k1', k2', rfl⟩ := hb'
  rw [add_form h1 k1 (fun h => sc_zero (hs h)) (fun h => sc_zero (ht h))] at hr
  rw [add_form h1' k1' (fun h => sc_zero (hs' h)) (fun h => sc_zero (ht' h))] at hr'
  cases hr
  cases hr'
  have hle' : sc (sc m' i' (min i' j') + sc n' j' (min i' j')) (min i' j') (-1074) ≤ sc c 0 (-1074) := by
    rw [add_sc h2' k2', sc_U]
    exact hc
  have hmm : sc (sc m i (min i j) + sc n j (min i j)) (min i j) (-1074) ≤ sc (sc m' i' (min i' j') + sc n' j' (min i' j')) (min i' j') (-1074) := by
    rw [add_sc h2 k2, add_sc h2' k2']
    exact Nat.add_le_add hv hu
  obtain ⟨w0, hw0, _, l1⟩ := near_le (if sc m i (min i j) + sc n j (min i j) = 0 then s && t else false) (b := -1074) hcd (by omega) (by omega) (by omega) (by omega) (by omega) (Nat.le_trans hmm hle')
  obtain ⟨x0, hx0, _, l2⟩ := near_le (if sc m' i' (min i' j') + sc n' j' (min i' j') = 0 then s' && t' else false) (b := -1074) hcd (by omega) (by omega) (by omega) (by omega) (by omega) hle'
  rw [(hw.same hw0).2, (hx.same hx0).2]
  exact near_mono (b := -1074) (by omega) (by omega) (by omega) hmm hw0 hx0 l1 l2
theorem add_exact {a b c d : Nat} {t : Bool} (ha : FV a false (c * U)) (hb : FV b t (d * U)) (ht : t = true → d = 0) (hcd : c + d < 9007199254740992) : ∃ r p, dbl.add a b = some r ∧ FV r p ((c + d) * U) ∧ (t = false → p = false) := by
  obtain ⟨m, i, h1, h2, e1⟩ := ha
  obtain ⟨n, j, k1, k2, e2⟩ := hb
  refine ⟨dbl.nearest (if sc m i (min i j) + sc n j (min i j) = 0 then false && t else false) (sc m i (min i j) + sc n j (min i j)) (min i j), (if sc m i (min i j) + sc n j (min i j) = 0 then false && t else false), add_form h1 k1 (fun h => by cases h) (fun h => by have := ht h; subst this; rw [Nat.zero_mul] at e2; exact sc_zero e2), ?_, fun _ => by split <;> rfl⟩
  have hq := near_eq (if sc m i (min i j) + sc n j (min i j) = 0 then false && t else false) (m := sc m i (min i j) + sc n j (min i j)) (i := min i j) (c := c + d) (q := 0) (b := -1074) hcd (by omega) (by omega) (by omega) (by omega) (by omega) (by rw [add_sc h2 k2, e1, e2, sc_U, Nat.add_mul])
  rw [sc_U] at hq
  exact hq
theorem up_of {b most c C : Nat} (hm : FV most false (C * U)) (hb : FV b false (c * U)) (h : c ≤ C) : upB b most = true := by
  unfold upB
  rw [order_FV hb zero_FV, order_FV hb hm]
  have hle : c * U ≤ C * U := Nat.mul_le_mul_right _ h
  have a1 : (some (compare (sg false (c * U)) (sg false 0)) == some Ordering.gt || some (compare (sg false (c * U)) (sg false 0)) == some Ordering.eq) = true := by
    unfold sg
    simp only [Bool.false_eq_true, if_false]
    rcases Nat.eq_zero_or_pos (c * U) with h0 | h0
    · rw [h0]; simp
    · rw [Int.compare_eq_gt.2 (by omega)]; rfl
  have a2 : (some (compare (sg false (c * U)) (sg false (C * U))) == some Ordering.lt || some (compare (sg false (c * U)) (sg false (C * U))) == some Ordering.eq) = true := by
    unfold sg
    simp only [Bool.false_eq_true, if_false]
    rcases Nat.lt_or_eq_of_le hle with h0 | h0
    · rw [Int.compare_eq_lt.2 (by omega)]; rfl
    · rw [h0]; simp
  rw [a1, a2]
  rfl
theorem cei_mono {v v' : Nat} (h : v ≤ v') : cei v ≤ cei v' := by
  have hU := U_pos
  refine cei_le (Nat.le_trans h ?_)
  unfold cei
  have hdm := Nat.div_add_mod v' U
  have hlt := Nat.mod_lt v' hU
  by_cases h0 : v' % U = 0
  · rw [h0]
    simp only [bne_self_eq_false, Bool.toNat_false, Nat.add_zero]
    rw [Nat.mul_comm]
    omega
  · rw [bne_iff_ne.2 h0, Bool.toNat_true, Nat.add_mul, Nat.one_mul, Nat.mul_comm (v' / U)]
    omega
theorem cei_whole (c : Nat) : cei (c * U) = c := by
  unfold cei
  rw [Nat.mul_div_cancel _ U_pos, Nat.mul_mod_left]
  simp
/-- a need of whole numbers -/
structure WN (M D Z : Nat) (m d z n : Nat) : Prop where
  hM : FV M false (m * U)
  hD : FV D false (d * U)
  hZ : FV Z false (z * U)
  bm : m ≤ 1000000000
  bd : d ≤ 1000000000
  bz : z ≤ 10
  bn : n ≤ 1000
theorem WN.ok {M D Z m d z n : Nat} (h : WN M D Z m d z n) : (upB M 4741671816366391296 && (upB D 4741671816366391296 && (upB Z 4621819117588971520 && (decide (0 ≤ (n : Int)) && decide ((n : Int) ≤ 1000))))) = true := by
  have := h.bn
  rw [up_of nine_FV h.hM h.bm, up_of nine_FV h.hD h.bd, up_of ten_FV h.hZ h.bz, decide_eq_true (p := (0 : Int) ≤ (n : Int)) (by omega), decide_eq_true (p := (n : Int) ≤ 1000) (by omega)]
  rfl
/-- what is reckoned of whole numbers -/
theorem WN.parts {M D Z m d z n : Nat} {k e : Int} (h : WN M D Z m d z n) (hA : PtA M D Z n k e) : e = 0 ∧ ∃ x y q y2 r s v s2 v2 sq vq, dbl.mul y q = some y2 ∧ dbl.sqrt (floatOfInt .f64 (n : Int)) = some q ∧ dbl.add x y2 = some r ∧ FV x false (m * n * U) ∧ FV y false (z * d * U) ∧ FV q sq vq ∧ vq ≤ 64 * U ∧ FV y2 s2 v2 ∧ (s2 = true → v2 = 0) ∧ v2 ≤ z * d * 64 * U ∧ FV r s v ∧ k = (cei v : Nat) := by
  have b1 := h.bm
  have b2 := h.bd
  have b3 := h.bz
  have b4 := h.bn
  have mn : m * n ≤ 1000000000 * 1000 := Nat.mul_le_mul b1 b4
  have zd : z * d ≤ 10 * 1000000000 := Nat.mul_le_mul b3 b2
  rcases hA with ⟨h1, _⟩ | ⟨n', x, y, q, y2, r, s, v, hn, _, _, hZ, hv, rfl, rfl⟩
  · rw [h.ok] at h1; cases h1
  · obtain rfl : n = n' := by omega
    refine ⟨rfl, ?_⟩
    obtain ⟨x', hx', fx⟩ := mul_exact h.hM (int_FV n (by omega)) (by omega)
    obtain ⟨y', hy', fy⟩ := mul_exact h.hZ h.hD (by omega)
    have ex := hZ.hx.symm.trans hx'
    have ey := hZ.hy.symm.trans hy'
    cases ex
    cases ey
    obtain ⟨q', hq', sq, vq, fq, nq, lq⟩ := sqrt_NN n b4
    have eq := hZ.hq.symm.trans hq'
    cases eq
    obtain ⟨y2', h2', s2, v2, f2, n2, l2⟩ := mul_NN ⟨false, _, fy, fun h => (by cases h), Nat.le_refl _⟩ ⟨sq, vq, fq, nq, lq⟩ (by omega)
    have e2 := hZ.h2.symm.trans h2'
    cases e2
    exact ⟨x, y, q, y2, r, s, v, s2, v2, sq, vq, h2', hq', hZ.hz, fx, fy, fq, lq, f2, n2, l2, hv, rfl⟩
theorem pt_grows {M D Z m d z M' D' Z' m' d' z' n : Nat} {k e k' e' : Int} (h : WN M D Z m d z n) (h' : WN M' D' Z' m' d' z' n) (hA : PtA M D Z n k e) (hA' : PtA M' D' Z' n k' e') (hm : m ≤ m') (hz : z * d ≤ z' * d') : k ≤ k' := by
  obtain ⟨_, x, y, q, y2, r, s, v, s2, v2, sq, vq, a1, a2, a3, fx, fy, fq, lq, f2, n2, l2, fr, rfl⟩ := h.parts hA
  obtain ⟨_, x', y', q', y2', r', s', v', s2', v2', sq', vq', a1', a2', a3', fx', fy', fq', lq', f2', n2', l2', fr', rfl⟩ := h'.parts hA'
  have eq := a2.symm.trans a2'
  cases eq
  have b1 := h'.bm
  have b2 := h'.bd
  have b3 := h'.bz
  have b4 := h'.bn
  have mn : m' * n ≤ 1000000000 * 1000 := Nat.mul_le_mul b1 b4
  have zd : z' * d' ≤ 10 * 1000000000 := Nat.mul_le_mul b3 b2
  have hv2 : v2 ≤ v2' := mul_mono fy fy' fq (Nat.mul_le_mul_right _ hz) (Nat.le_refl _) lq (show z' * d' * 64 < 9007199254740992 by omega) a1 a1' f2 f2'
  have hvv : v ≤ v' := add_mono (c := 1640000000000) fx fx' f2 f2' (fun h => by cases h) (fun h => by cases h) n2 n2' (Nat.mul_le_mul_right _ (Nat.mul_le_mul_right _ hm)) hv2 (Nat.le_trans (Nat.add_le_add_left l2' _) (by rw [← Nat.add_mul]; exact Nat.mul_le_mul_right _ (show m' * n + z' * d' * 64 ≤ 1640000000000 by omega))) (by omega) a3 a3' fr fr'
  have := cei_mono hvv
  omega
theorem pt_still {M D Z m z n : Nat} {k e : Int} (h : WN M D Z m 0 z n) (hA : PtA M D Z n k e) : k = ((m * n : Nat) : Int) := by
  obtain ⟨_, x, y, q, y2, r, s, v, s2, v2, sq, vq, a1, a2, a3, fx, fy, fq, lq, f2, n2, l2, fr, rfl⟩ := h.parts hA
  have b1 := h.bm
  have b4 := h.bn
  have mn : m * n ≤ 1000000000 * 1000 := Nat.mul_le_mul b1 b4
  have z2 : v2 = 0 := by
    simp only [Nat.mul_zero, Nat.zero_mul] at l2
    exact Nat.le_zero.1 l2
  subst z2
  obtain ⟨r', p, hr', fr', _⟩ := add_exact (d := 0) fx (by rw [Nat.zero_mul]; exact f2) (fun _ => rfl) (by omega)
  have er := a3.symm.trans hr'
  cases er
  rw [(fr.same fr').2, Nat.add_zero, cei_whole]
end Go.Proofs.YtgnnopjkbmbjbaaDoor
