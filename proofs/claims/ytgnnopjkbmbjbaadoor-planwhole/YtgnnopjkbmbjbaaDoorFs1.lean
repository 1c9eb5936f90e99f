/-
  Floats, pure: what a history's mean and deviation are reckoned by; smoothing.
-/
import Derived.Test.YtgnnopjkbmbjbaaDoorFg1
namespace Go.Proofs.YtgnnopjkbmbjbaaDoor
open Go.RowKit
set_option maxRecDepth 100000
set_option linter.unusedSimpArgs false

theorem FV.nan {b : Nat} {s : Bool} {v : Nat} (h : FV b s v) : nanB b = false := by
  obtain ⟨m, e, h1, _⟩ := h
  unfold nanB
  rw [h1]
  rfl
/-- a quotient by a number that is not 0 -/
theorem div_pos {a n : Nat} (ha : posB a) (hn : 0 < n) (hn2 : n < 9007199254740992) : ∃ r, dbl.div a (floatOfInt .f64 (n : Int)) = some r ∧ posB r := by
  obtain ⟨m, e, h1, h2, h3⟩ := int_FV n hn2
  have hm : m ≠ 0 := by
    intro h0
    subst h0
    rw [sc_nil] at h3
    have := Nat.mul_pos hn U_pos
    omega
  obtain ⟨a1, a2⟩ := ha
  unfold nanB at a1
  show ∃ r, ((rdF a).quotient (52 + 2) (rdF (floatOfInt .f64 (n : Int)))).map dbl.write = some r ∧ posB r
  rw [h1]
  rcases rdF_cases a with ⟨s, k, i, r1, _⟩ | ⟨s, r1⟩ | ⟨s, t, r1⟩
  · rw [r1] at a2 ⊢
    simp only [Ieee.Datum.neg] at a2
    subst a2
    simp only [Ieee.Datum.quotient, if_neg hm, Option.map_some]
    exact ⟨_, rfl, write_read rfl⟩
  · rw [r1] at a2 ⊢
    simp only [Ieee.Datum.neg] at a2
    subst a2
    simp only [Ieee.Datum.quotient, Option.map_some]
    exact ⟨_, rfl, write_read rfl⟩
  · rw [r1] at a1; cases a1
theorem FV.pos {b v : Nat} (h : FV b false v) : posB b := by
  refine ⟨h.nan, ?_⟩
  obtain ⟨m, e, h1, _⟩ := h
  rw [h1]
  rfl
/-- a whole number less what is no NaN -/
theorem sub_ok {a : Nat} (n : Nat) (hn : n < 9007199254740992) (ha : nanB a = false) : ∃ r, dbl.sub (floatOfInt .f64 (n : Int)) a = some r ∧ nanB r = false := by
  obtain ⟨m, e, h1, h2, h3⟩ := int_FV n hn
  unfold nanB at ha
  show ∃ r, ((rdF (floatOfInt .f64 (n : Int))).sum (rdF a).opposite).map dbl.write = some r ∧ nanB r = false
  rw [h1]
  rcases rdF_cases a with ⟨s, k, i, r1, _⟩ | ⟨s, r1⟩ | ⟨s, t, r1⟩
  · rw [r1]
    simp only [Ieee.Datum.opposite, Ieee.Datum.sum, Option.map_some]
    exact ⟨_, rfl, (write_read rfl).1⟩
  · rw [r1]
    simp only [Ieee.Datum.opposite, Ieee.Datum.sum, Option.map_some]
    exact ⟨_, rfl, (write_read rfl).1⟩
  · rw [r1] at ha; cases ha
theorem sq_ok {a : Nat} (ha : nanB a = false) : ∃ r, dbl.mul a a = some r ∧ posB r := by
  unfold nanB at ha
  show ∃ r, ((rdF a).product (rdF a)).map dbl.write = some r ∧ posB r
  rcases rdF_cases a with ⟨s, k, i, r1, _⟩ | ⟨s, r1⟩ | ⟨s, t, r1⟩
  · rw [r1]
    simp only [Ieee.Datum.product, Option.map_some]
    exact ⟨_, rfl, by have := write_read (d := Ieee.Datum.number (s ^^ s) (k * k) (i + i)) rfl; exact ⟨this.1, this.2.trans (by cases s <;> rfl)⟩⟩
  · rw [r1]
    simp only [Ieee.Datum.product, Option.map_some]
    exact ⟨_, rfl, by have := write_read (d := Ieee.Datum.infinity (s ^^ s)) rfl; exact ⟨this.1, this.2.trans (by cases s <;> rfl)⟩⟩
  · rw [r1] at ha; cases ha
theorem sqrt_ok {a : Nat} (ha : posB a) : ∃ r, dbl.sqrt a = some r ∧ posB r := by
  obtain ⟨a1, a2⟩ := ha
  unfold nanB at a1
  show ∃ r, ((rdF a).root (52 + 2)).map dbl.write = some r ∧ posB r
  rcases rdF_cases a with ⟨s, k, i, r1, _⟩ | ⟨s, r1⟩ | ⟨s, t, r1⟩
  · rw [r1] at a2 ⊢
    simp only [Ieee.Datum.neg] at a2
    subst a2
    unfold Ieee.Datum.root
    dsimp only
    by_cases h0 : k = 0
    · rw [if_pos h0]
      exact ⟨_, rfl, write_read rfl⟩
    · rw [if_neg h0, if_neg (by simp)]
      exact ⟨_, rfl, write_read rfl⟩
  · rw [r1] at a2 ⊢
    simp only [Ieee.Datum.neg] at a2
    subst a2
    simp only [Ieee.Datum.root, Bool.false_eq_true, if_false, Option.map_some]
    exact ⟨_, rfl, write_read rfl⟩
  · rw [r1] at a1; cases a1
/-- squares of how far they lie from mean, put together behind some -/
def sqS (mean : Nat) (acc : Nat) (n : Int) : Nat := ((dbl.sub (floatOfInt .f64 n) mean).bind fun d => (dbl.mul d d).bind fun q => dbl.add acc q).getD 0
def sqL (mean : Nat) (L : List Int) : Nat := L.foldl (sqS mean) 0
theorem sqS_ok {mean acc : Nat} (n : Nat) (hn : n < 9007199254740992) (hm : nanB mean = false) (ha : posB acc) : ∃ d q, dbl.sub (floatOfInt .f64 (n : Int)) mean = some d ∧ dbl.mul d d = some q ∧ dbl.add acc q = some (sqS mean acc (n : Int)) ∧ posB (sqS mean acc (n : Int)) := by
  obtain ⟨d, h1, n1⟩ := sub_ok n hn hm
  obtain ⟨q, h2, p2⟩ := sq_ok n1
  obtain ⟨r, h3, p3⟩ := add_pos ha p2
  have e : sqS mean acc (n : Int) = r := by unfold sqS; simp [h1, h2, h3]
  rw [e]
  exact ⟨d, q, h1, h2, h3, p3⟩
theorem sqL_snoc (mean : Nat) (L : List Int) (x : Int) : sqL mean (L ++ [x]) = sqS mean (sqL mean L) x := by simp [sqL]
/-- numbers of a history -/
def HOk (L : List Int) : Prop := ∀ x ∈ L, 0 ≤ x ∧ x ≤ 1099511627776
theorem zero_pos : posB 0 := zero_FV.pos
theorem sqL_pos {mean : Nat} (hm : nanB mean = false) (L : List Int) (h : HOk L) : posB (sqL mean L) := by
  unfold sqL
  have : ∀ (L : List Int) (acc : Nat), posB acc → HOk L → posB (L.foldl (sqS mean) acc) := by
    intro L
    induction L with
    | nil => intro acc ha _; exact ha
    | cons x t ih =>
      intro acc ha hL
      obtain ⟨h0, h1⟩ := hL x (by simp)
      obtain ⟨n, rfl⟩ := Int.eq_ofNat_of_zero_le h0
      obtain ⟨_, _, _, _, _, p⟩ := sqS_ok n (by omega) hm ha
      exact ih _ p (fun y hy => hL y (List.mem_cons_of_mem _ hy))
  exact this L 0 zero_pos h
/-- the sum -/
def smL (L : List Int) : Int := L.foldl (· + ·) 0
theorem smL_snoc (L : List Int) (x : Int) : smL (L ++ [x]) = smL L + x := by simp [smL]
theorem smL_take {L : List Int} (h : HOk L) (k : Nat) : 0 ≤ smL (L.take k) ∧ smL (L.take k) ≤ 1099511627776 * k := by
  induction k with
  | zero => simp [smL]
  | succ k ih =>
    by_cases hk : k < L.length
    · rw [List.take_succ_eq_append_getElem hk, smL_snoc]
      have := h _ (List.getElem_mem hk)
      omega
    · rw [List.take_of_length_le (by omega)]
      rw [List.take_of_length_le (by omega)] at ih
      omega
/-- mean and deviation -/
def meL (L : List Int) : Nat := (dbl.div (floatOfInt .f64 (smL L)) (floatOfInt .f64 (L.length : Int))).getD 0
def deL (L : List Int) : Nat := ((dbl.div (sqL (meL L) L) (floatOfInt .f64 (L.length : Int))).bind dbl.sqrt).getD 0
theorem stats_ok {L : List Int} (h : HOk L) (h0 : 0 < L.length) (hl : L.length ≤ 4096) :
    dbl.div (floatOfInt .f64 (smL L)) (floatOfInt .f64 (L.length : Int)) = some (meL L) ∧ nanB (meL L) = false ∧ ∃ q, dbl.div (sqL (meL L) L) (floatOfInt .f64 (L.length : Int)) = some q ∧ dbl.sqrt q = some (deL L) ∧ nanB (deL L) = false := by
  have hs := smL_take h L.length
  rw [List.take_length] at hs
  obtain ⟨n, hn⟩ := Int.eq_ofNat_of_zero_le hs.1
  have hn2 : n ≤ 1099511627776 * 4096 := by omega
  obtain ⟨r, hr, pr⟩ := div_pos (int_FV n (by omega)).pos h0 (by omega)
  rw [← hn] at hr
  have e : meL L = r := by unfold meL; rw [hr]; rfl
  rw [← e] at hr pr
  obtain ⟨q, hq, pq⟩ := div_pos (sqL_pos pr.1 L h) h0 (by omega)
  obtain ⟨d, hd, pd⟩ := sqrt_ok pq
  have e2 : deL L = d := by unfold deL; rw [hq]; simp [hd]
  rw [← e2] at hd pd
  exact ⟨hr, pr.1, q, hq, hd, pd.1⟩
/-- above 0, at most 1 -/
def wOk (w : Nat) : Bool := (dbl.order w 0 == some .gt) && (dbl.order w 4607182418800017408 == some .lt || dbl.order w 4607182418800017408 == some .eq)
theorem one_FV : FV 4607182418800017408 false (1 * U) := by
  have e : 4607182418800017408 = floatOfInt .f64 ((1 : Nat) : Int) := by decide +kernel
  rw [e]
  exact int_FV 1 (by omega)
theorem sub_NN {a b c v u : Nat} (ha : FV a false v) (hb : FV b false u) (hu : u ≤ v) (hv : v ≤ c * U) (hc : c < 9007199254740992) : ∃ r, dbl.sub a b = some r ∧ NN r c := by
  obtain ⟨m, i, h1, h2, rfl⟩ := ha
  obtain ⟨n, j, k1, k2, rfl⟩ := hb
  have hle : sc n j (min i j) ≤ sc m i (min i j) := (sc_le_iff (c := -1074) (b := min i j) (by omega) (by omega) (by omega)).1 hu
  have e1 : Ieee.signed false m (i - min i j).toNat + Ieee.signed true n (j - min i j).toNat = ((sc m i (min i j) - sc n j (min i j) : Nat) : Int) := by
    unfold Ieee.signed
    rw [Nat.shiftLeft_eq, Nat.shiftLeft_eq]
    simp only [Bool.false_eq_true, if_false, if_true]
    unfold sc at hle ⊢
    omega
  refine ⟨dbl.nearest false (sc m i (min i j) - sc n j (min i j)) (min i j), ?_, ?_⟩
  · show ((rdF a).sum (rdF b).opposite).map dbl.write = _
    rw [h1, k1]
    simp only [Ieee.Datum.opposite, Ieee.Datum.sum, Bool.not_false, e1, Option.map_some, Option.some.injEq]
    show dbl.nearest _ _ _ = _
    rw [Int.natAbs_natCast]
    congr 1
    by_cases h0 : sc m i (min i j) - sc n j (min i j) = 0
    · rw [if_pos (by omega)]; rfl
    · rw [if_neg (by omega)]
      exact decide_eq_false (by omega)
  · have hle2 : sc (sc m i (min i j) - sc n j (min i j)) (min i j) (-1074) ≤ sc c 0 (-1074) := by
      rw [sc_U]
      refine Nat.le_trans ?_ hv
      rw [sc_down m (show -1074 ≤ min i j by omega) (show min i j ≤ i by omega)]
      exact Nat.mul_le_mul_right _ (Nat.sub_le _ _)
    obtain ⟨x, hx, hxl, _⟩ := near_le false (b := -1074) hc (by omega) (by omega) (by omega) (by omega) (by omega) hle2
    exact ⟨false, x, hx, fun h => (by cases h), by rw [← sc_U]; exact hxl⟩
theorem w_NN {w : Nat} (h : wOk w = true) : NN w 1 ∧ ∃ r, dbl.sub 4607182418800017408 w = some r ∧ NN r 1 := by
  unfold wOk at h
  rw [Bool.and_eq_true] at h
  have hu : upB w 4607182418800017408 = true := by unfold upB; rw [h.1, h.2]; rfl
  have hN := up_NN one_FV hu
  refine ⟨hN, ?_⟩
  obtain ⟨s, v, hv, hs, hle⟩ := hN
  have h1 := h.1
  rw [order_FV hv zero_FV, beq_iff_eq, Option.some.injEq, Int.compare_eq_gt] at h1
  cases s
  · exact sub_NN one_FV hv hle (Nat.le_refl _) (by omega)
  · rw [hs rfl] at h1
    exact absurd h1 (by unfold sg; simp)
/-- one number smoothed -/
def stO (w rest p : Nat) (n : Int) : Nat := ((dbl.mul w (floatOfInt .f64 n)).bind fun a => (dbl.mul rest p).bind fun b => dbl.add a b).getD 0
def smN (w rest : Nat) (acc : List Nat) (n : Int) : Nat := match acc.getLast? with | none => floatOfInt .f64 n | some p => stO w rest p n
def smO (w rest : Nat) (L : List Int) : List Nat := L.foldl (fun acc n => acc ++ [smN w rest acc n]) []
theorem smO_snoc (w rest : Nat) (L : List Int) (x : Int) : smO w rest (L ++ [x]) = smO w rest L ++ [smN w rest (smO w rest L) x] := by simp [smO]
theorem smO_take (w rest : Nat) (L : List Int) (k : Nat) (h : k < L.length) : smO w rest (L.take (k + 1)) = smO w rest (L.take k) ++ [smN w rest (smO w rest (L.take k)) L[k]] := by rw [List.take_succ_eq_append_getElem h, smO_snoc]
theorem smO_len (w rest : Nat) (L : List Int) (k : Nat) (h : k ≤ L.length) : (smO w rest (L.take k)).length = k := by
  induction k with
  | zero => simp [smO]
  | succ k ih => rw [smO_take w rest L k (by omega), List.length_append, ih (by omega)]; rfl
theorem stO_ok {w rest p c : Nat} (n : Nat) (hw : NN w 1) (hr : NN rest 1) (hp : NN p c) (hn : n ≤ 1099511627776) (hc : 1099511627776 + c < 9007199254740992) : ∃ a b, dbl.mul w (floatOfInt .f64 (n : Int)) = some a ∧ dbl.mul rest p = some b ∧ dbl.add a b = some (stO w rest p (n : Int)) ∧ NN (stO w rest p (n : Int)) (1099511627776 + c) := by
  obtain ⟨a, h1, n1⟩ := mul_NN hw ((int_NN n (by omega)).mono hn) (by omega)
  obtain ⟨b, h2, n2⟩ := mul_NN hr hp (by omega)
  obtain ⟨r, h3, n3⟩ := add_NN n1 n2 (by omega)
  have e : stO w rest p (n : Int) = r := by unfold stO; simp [h1, h2, h3]
  rw [e]
  exact ⟨a, b, h1, h2, h3, n3.mono (by omega)⟩
theorem smO_last {w rest : Nat} {L : List Int} (hw : NN w 1) (hr : NN rest 1) (hL : HOk L) (hl : L.length ≤ 4096) (k : Nat) (h : k < L.length) : ∃ p, (smO w rest (L.take (k + 1))).getLast? = some p ∧ NN p (1099511627776 * (k + 1)) := by
  induction k with
  | zero =>
    obtain ⟨h0, h1⟩ := hL _ (List.getElem_mem h)
    obtain ⟨n, hn⟩ := Int.eq_ofNat_of_zero_le h0
    refine ⟨floatOfInt .f64 L[0], ?_, ?_⟩
    · rw [smO_take w rest L 0 h]; simp [smO, smN]
    · rw [hn]; exact (int_NN n (by omega)).mono (by omega)
  | succ k ih =>
    obtain ⟨p, hp, np⟩ := ih (by omega)
    obtain ⟨h0, h1⟩ := hL _ (List.getElem_mem h)
    obtain ⟨n, hn⟩ := Int.eq_ofNat_of_zero_le h0
    obtain ⟨_, _, _, _, _, nr⟩ := stO_ok n hw hr np (by omega) (by omega)
    refine ⟨stO w rest p L[k + 1], ?_, ?_⟩
    · rw [smO_take w rest L (k + 1) h]
      simp [smN, hp]
    · rw [hn]; exact nr.mono (by omega)
end Go.Proofs.YtgnnopjkbmbjbaaDoor
