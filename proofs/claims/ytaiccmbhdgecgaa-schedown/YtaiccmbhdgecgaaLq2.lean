/-
  SchedLeast: what Least answers is the least list.
-/
import Derived.Test.YtaiccmbhdgecgaaLq1
import Derived.Test.YtaiccmbhdgecgaaLe4
namespace Go.Proofs.Ytaiccmbhdgecgaa
open Go.RowKit
set_option maxRecDepth 100000

theorem arP_app (P Q : List Pr) (a b : Int) : arP (P ++ Q) a b = (arP P a b || arP Q a b) := by
  unfold arP
  rw [List.any_append, Bool.and_or_distrib_left]
theorem tm_is (P : List Pr) (hp : ∀ i (h : i < P.length), 0 ≤ P[i].1 ∧ P[i].1 < 16 ∧ 0 ≤ P[i].2 ∧ P[i].2 < 16) (a b : Nat) (ha : a < 16) (hb : b < 16) : ∀ j, j ≤ P.length → (tm P j).getD (16 * a + b) false = arP (P.take j) a b
  | 0, _ => by
    have e2 : (List.replicate 256 false).getD (16 * a + b) false = false := by
      rw [List.getD_eq_getElem?_getD, List.getElem?_replicate, if_pos (by omega)]; rfl
    show (List.replicate 256 false).getD (16 * a + b) false = arP [] a b
    rw [e2]
    simp [arP]
  | j + 1, h => by
    have ih := tm_is P hp a b ha hb j (by omega)
    obtain ⟨h0, h1, h2, h3⟩ := hp j (by omega)
    have hl := tm_len P j (by omega)
    rw [tm_succ P j (by omega), List.take_add_one, List.getElem?_eq_getElem (show j < P.length by omega), Option.toList_some, arP_app, ← ih]
    obtain ⟨⟨x, y⟩, hxy⟩ : ∃ p, P[j] = p := ⟨_, rfl⟩
    rw [hxy] at h0 h1 h2 h3
    rw [hxy]
    simp only at h0 h1 h2 h3
    obtain ⟨x, rfl⟩ := Int.eq_ofNat_of_zero_le h0
    obtain ⟨y, rfl⟩ := Int.eq_ofNat_of_zero_le h2
    unfold t1
    by_cases c : (x : Int) = (y : Int)
    · rw [if_pos c]
      have : arP [((x : Int), (y : Int))] a b = false := by
        unfold arP
        have : x = y := by omega
        subst this
        by_cases e : (a : Int) = b
        · simp [e]
        · have : a ≠ b := by omega
          simp [List.any_cons]
          omega
      rw [this, Bool.or_false]
    · rw [if_neg c]
      simp only [Int.toNat_natCast]
      rw [getD_set _ _ _ _ _ (by rw [List.length_set, hl]; omega), getD_set _ _ _ _ _ (by rw [hl]; omega)]
      have e3 : arP [((x : Int), (y : Int))] a b = (decide (16 * y + x = 16 * a + b) || decide (16 * x + y = 16 * a + b)) := by
        unfold arP
        rw [Bool.eq_iff_iff]
        simp [List.any_cons]
        omega
      rw [e3]
      by_cases c1 : 16 * y + x = 16 * a + b
      · rw [if_pos c1]; simp [c1]
      · rw [if_neg c1]
        by_cases c2 : 16 * x + y = 16 * a + b
        · rw [if_pos c2]; simp [c2]
        · rw [if_neg c2]; simp [c1, c2]
theorem lw_inv (R : List Int) (B : List Nat) : ∀ n, 0 < n → fr R B (lw R B n) = true ∧ ∀ i, i < n → fr R B i = true → R.getD (lw R B n) 0 ≤ R.getD i 0
  | 0, h => by omega
  | 1, _ => by
    have e : lw R B 1 = 0 := by unfold lw; split <;> rfl
    rw [e]
    refine ⟨by simp [fr, bh], fun i hi _ => ?_⟩
    have : i = 0 := by omega
    subst this
    exact Int.le_refl _
  | n + 2, _ => by
    obtain ⟨h1, h2⟩ := lw_inv R B (n + 1) (by omega)
    have e : lw R B (n + 2) = if fr R B (n + 1) && decide (R.getD (n + 1) 0 < R.getD (lw R B (n + 1)) 0) then n + 1 else lw R B (n + 1) := rfl
    rw [e]
    by_cases c : fr R B (n + 1) = true ∧ R.getD (n + 1) 0 < R.getD (lw R B (n + 1)) 0
    · rw [if_pos (by rw [c.1, decide_eq_true c.2]; rfl)]
      refine ⟨c.1, fun i hi hf => ?_⟩
      by_cases ci : i = n + 1
      · subst ci; exact Int.le_refl _
      · have := h2 i (by omega) hf
        omega
    · have hif : (fr R B (n + 1) && decide (R.getD (n + 1) 0 < R.getD (lw R B (n + 1)) 0)) = false := by
        rw [Bool.eq_false_iff]
        intro e
        simp at e
        exact c ⟨e.1, by simpa using e.2⟩
      rw [hif]
      refine ⟨h1, fun i hi hf => ?_⟩
      by_cases ci : i = n + 1
      · subst ci
        by_cases c2 : R.getD (n + 1) 0 < R.getD (lw R B (n + 1)) 0
        · exact (c ⟨hf, c2⟩).elim
        · simp only [Bool.false_eq_true, if_false]
          omega
      · exact h2 i (by omega) hf
theorem dfr_all (R : List Int) (T : List Bool) (i : Nat) : ∀ n, dfr R T i n = true ↔ ∀ j, j < n → T.getD (16 * (R.getD j 0).toNat + (R.getD i 0).toNat) false = true
  | 0 => by simp [dfr]
  | n + 1 => by
    unfold dfr
    rw [Bool.and_eq_true, dfr_all R T i n]
    constructor
    · rintro ⟨h1, h2⟩ j hj
      by_cases c : j = n
      · subst c; exact h2
      · exact h1 j (by omega)
    · exact fun h => ⟨fun j hj => h j (by omega), h n (by omega)⟩
theorem le_lst (P : List Pr) (hp : ∀ i (h : i < P.length), 0 ≤ P[i].1 ∧ P[i].1 < 16 ∧ 0 ≤ P[i].2 ∧ P[i].2 < 16) : ∀ (m : Nat) (R : List Int), R.length = m → (∀ i (h : i < R.length), 0 ≤ R[i] ∧ R[i] < 16) → Lst (arP P) R (le (bm P P.length) m R)
  | 0, R, hl, _ => by
    obtain rfl := List.eq_nil_of_length_eq_zero hl
    exact .nil
  | m + 1, R, hl, hin => by
    have hag := agr_any P hp P.length (Nat.le_refl _)
    have hgd : ∀ i, i < R.length → 0 ≤ R.getD i 0 ∧ R.getD i 0 < 16 := fun i hi => by
      rw [List.getD_eq_getElem?_getD, List.getElem?_eq_getElem hi]
      exact hin i hi
    have hfr : ∀ i, i < R.length → (fr R (bm P P.length) i = true ↔ ∀ j, j < i → arP P (R.getD j 0) (R.getD i 0) = true) := fun i hi => by
      have e : fr R (bm P P.length) i = dfr R (tm P P.length) i i := (dfr_is hag hin i i).symm
      rw [e, dfr_all]
      refine forall_congr' fun j => forall_congr' fun hj => ?_
      have h1 := hgd j (by omega)
      have h2 := hgd i hi
      rw [tm_is P hp _ _ (by omega) (by omega) P.length (Nat.le_refl _), List.take_length]
      rw [Int.toNat_of_nonneg h1.1, Int.toNat_of_nonneg h2.1]
    have hk := lw_lt R (bm P P.length) R.length (by omega)
    have hi := lw_inv R (bm P P.length) R.length (by omega)
    have e : le (bm P P.length) (m + 1) R = R.getD (lw R (bm P P.length) R.length) 0 :: le (bm P P.length) m (R.eraseIdx (lw R (bm P P.length) R.length)) := rfl
    rw [e]
    generalize lw R (bm P P.length) R.length = k at hk hi
    have hx : R.getD k 0 = R[k] := by rw [List.getD_eq_getElem?_getD, List.getElem?_eq_getElem hk]; rfl
    have hR : R = R.take k ++ R[k] :: R.drop (k + 1) := by rw [← List.drop_eq_getElem_cons hk, List.take_append_drop]
    have hall : ∀ y ∈ R.take k, arP P y R[k] = true := fun y hy => by
      obtain ⟨j, hj, rfl⟩ := List.getElem_of_mem hy
      rw [List.length_take] at hj
      have := (hfr k hk).1 hi.1 j (by omega)
      rw [hx, List.getD_eq_getElem?_getD, List.getElem?_eq_getElem (by omega)] at this
      rw [List.getElem_take]
      exact this
    have hn : R[k] ∉ R.take k := fun h => by
      have := hall _ h
      rw [arP_irr] at this
      cases this
    have hse : R.eraseIdx k = R.erase R[k] := by
      rw [List.eraseIdx_eq_take_drop_succ]
      have e1 := erase_split (C := R.drop (k + 1)) hn
      rw [← hR] at e1
      exact e1.symm
    rw [hx]
    refine .cons ⟨⟨_, _, hR, hn, hall⟩, fun y hy => ?_⟩ ?_
    · obtain ⟨A, C, he, hny, hally⟩ := hy
      have hil : A.length < R.length := by rw [he]; simp
      have hy2 : R.getD A.length 0 = y := by rw [he, List.getD_eq_getElem?_getD]; simp
      have := hi.2 A.length hil ((hfr _ hil).2 fun j hj => by
        rw [hy2]
        refine hally _ ?_
        have : R.getD j 0 = A[j] := by rw [he, List.getD_eq_getElem?_getD, List.getElem?_append_left hj, List.getElem?_eq_getElem hj]; rfl
        rw [this]
        exact List.getElem_mem hj)
      rw [hx, hy2] at this
      exact this
    · rw [← hse]
      refine le_lst P hp m _ (by rw [List.length_eraseIdx_of_lt hk]; omega) fun i hi => ?_
      obtain ⟨q, hq, e⟩ := List.getElem_of_mem (List.mem_of_mem_eraseIdx (List.getElem_mem hi))
      rw [← e]
      exact hin q hq
end Go.Proofs.Ytaiccmbhdgecgaa
