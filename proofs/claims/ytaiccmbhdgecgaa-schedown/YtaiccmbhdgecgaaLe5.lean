/-
  Least: the document's table, and that it picks the same.
-/
import Derived.Test.YtaiccmbhdgecgaaLe2
namespace Go.Proofs.Ytaiccmbhdgecgaa
open Go.RowKit
set_option maxRecDepth 100000

/-- the document's table of the apart: one pair more -/
def t1 (L : List Bool) (p : Pr) : List Bool := if p.1 = p.2 then L else (L.set (16 * p.1.toNat + p.2.toNat) true).set (16 * p.2.toNat + p.1.toNat) true
/-- behind the first j pairs -/
def tm (P : List Pr) (j : Nat) : List Bool := (P.take j).foldl t1 (List.replicate 256 false)
theorem tm_succ (P : List Pr) (j : Nat) (h : j < P.length) : tm P (j + 1) = t1 (tm P j) P[j] := by
  unfold tm
  rw [List.take_add_one, List.getElem?_eq_getElem h, List.foldl_append]
  rfl
theorem t1_len (L : List Bool) (p : Pr) : (t1 L p).length = L.length := by unfold t1; split <;> simp
theorem tm_len (P : List Pr) : ∀ j, j ≤ P.length → (tm P j).length = 256
  | 0, _ => by simp [tm]
  | j + 1, h => by rw [tm_succ P j (by omega), t1_len, tm_len P j (by omega)]
theorem getD_set {α : Type} (L : List α) (i j : Nat) (x d : α) (hi : i < L.length) : (L.set i x).getD j d = if i = j then x else L.getD j d := by
  rw [List.getD_eq_getElem?_getD, List.getElem?_set]
  by_cases c : i = j
  · rw [if_pos c, if_pos c, if_pos hi]; rfl
  · rw [if_neg c, if_neg c, ← List.getD_eq_getElem?_getD]
/-- masks and table say the same -/
def Agr (B : List Nat) (T : List Bool) : Prop := ∀ a b, a < 16 → b < 16 → T.getD (16 * a + b) false = !(B.getD a 0).testBit b
theorem agr0 : Agr (List.replicate 16 65535) (List.replicate 256 false) := by
  intro a b ha hb
  have e1 : (List.replicate 16 65535).getD a 0 = 65535 := by
    rw [List.getD_eq_getElem?_getD, List.getElem?_replicate, if_pos ha]; rfl
  have e2 : (List.replicate 256 false).getD (16 * a + b) false = false := by
    rw [List.getD_eq_getElem?_getD, List.getElem?_replicate, if_pos (by omega)]; rfl
  rw [e1, e2, show (65535 : Nat) = 2 ^ 16 - 1 from rfl, Nat.testBit_two_pow_sub_one, decide_eq_true hb]
  rfl
theorem agr1 {B : List Nat} {T : List Bool} (h : Agr B T) (hB : B.length = 16) (hT : T.length = 256) (hlt : ∀ b ∈ B, b < 65536) (p : Pr) (h0 : 0 ≤ p.1) (h1 : p.1 < 16) (h2 : 0 ≤ p.2) (h3 : p.2 < 16) : Agr (b1 B p) (t1 T p) := by
  intro a b ha hb
  obtain ⟨A, C⟩ := p
  obtain ⟨x, rfl⟩ := Int.eq_ofNat_of_zero_le h0
  obtain ⟨y, rfl⟩ := Int.eq_ofNat_of_zero_le h2
  have hx : x < 16 := by omega
  have hy : y < 16 := by omega
  unfold b1 t1
  by_cases c : (x : Int) = (y : Int)
  · rw [if_pos c, if_pos c]
    exact h a b ha hb
  · rw [if_neg c, if_neg c]
    have cn : x ≠ y := by omega
    simp only [Int.toNat_natCast]
    have hgx : (B.getD x 0) < 65536 := getD_lt hlt x
    rw [getD_set _ _ _ _ _ (by rw [List.length_set, hT]; omega), getD_set _ _ _ _ _ (by rw [hT]; omega), getD_set _ _ _ _ _ (by rw [List.length_set, hB]; omega), getD_set _ _ y _ _ (by rw [hB]; omega), getD_set _ _ a _ _ (by rw [hB]; omega), if_neg cn]
    by_cases ya : y = a
    · subst ya
      rw [if_pos rfl, cl_bit _ _ _ (getD_lt hlt y) hx, if_neg (show ¬ 16 * x + y = 16 * y + b by omega), h y b ha hb]
      by_cases bx : x = b
      · subst bx
        rw [if_pos rfl]
        simp
      · rw [if_neg (by omega), decide_eq_false (Ne.symm bx)]
        simp
    · rw [if_neg ya, if_neg (show ¬ 16 * y + x = 16 * a + b by omega)]
      by_cases xa : x = a
      · subst xa
        rw [if_pos rfl, cl_bit _ _ _ (getD_lt hlt x) hy, h x b ha hb]
        by_cases bx : y = b
        · subst bx
          rw [if_pos rfl]
          simp
        · rw [if_neg (by omega), decide_eq_false (Ne.symm bx)]
          simp
      · rw [if_neg xa, if_neg (show ¬ 16 * x + y = 16 * a + b by omega)]
        exact h a b ha hb
theorem agr_any (P : List Pr) (hp : ∀ i (h : i < P.length), 0 ≤ P[i].1 ∧ P[i].1 < 16 ∧ 0 ≤ P[i].2 ∧ P[i].2 < 16) : ∀ j, j ≤ P.length → Agr (bm P j) (tm P j)
  | 0, _ => agr0
  | j + 1, h => by
    rw [bm_succ P j (by omega), tm_succ P j (by omega)]
    obtain ⟨h0, h1, h2, h3⟩ := hp j (by omega)
    exact agr1 (agr_any P hp j (by omega)) (bm_len P j) (tm_len P j (by omega)) (bm_lt P j) _ h0 h1 h2 h3
/-- the document's free: all of the first n are apart from pick i -/
def dfr (R : List Int) (T : List Bool) (i : Nat) : Nat → Bool
  | 0 => true
  | n + 1 => dfr R T i n && T.getD (16 * (R.getD n 0).toNat + (R.getD i 0).toNat) false
/-- the document's best of the first i -/
def bst (R : List Int) (T : List Bool) : Nat → Int
  | 0 => -1
  | i + 1 => if dfr R T i i && (decide (bst R T i < 0) || decide (R.getD i 0 < R.getD (bst R T i).toNat 0)) then (i : Int) else bst R T i
theorem r_in {R : List Int} (hin : ∀ i (h : i < R.length), 0 ≤ R[i] ∧ R[i] < 16) (i : Nat) : (R.getD i 0).toNat < 16 := by
  rw [List.getD_eq_getElem?_getD]
  by_cases h : i < R.length
  · rw [List.getElem?_eq_getElem h]
    have := hin i h
    show (R[i]).toNat < 16
    omega
  · rw [List.getElem?_eq_none (by omega)]
    show (0 : Int).toNat < 16
    omega
theorem dfr_is {R : List Int} {B : List Nat} {T : List Bool} (h : Agr B T) (hin : ∀ i (h : i < R.length), 0 ≤ R[i] ∧ R[i] < 16) (i : Nat) : ∀ n, dfr R T i n = !(bh R B n).testBit (R.getD i 0).toNat
  | 0 => by simp [dfr, bh]
  | n + 1 => by
    unfold dfr bh
    rw [dfr_is h hin i n, Nat.testBit_or, h _ _ (r_in hin n) (r_in hin i), Bool.not_or]
theorem bst_is {R : List Int} {B : List Nat} {T : List Bool} (h : Agr B T) (hin : ∀ i (h : i < R.length), 0 ≤ R[i] ∧ R[i] < 16) : ∀ i, bst R T (i + 1) = (lw R B (i + 1) : Int)
  | 0 => by
    unfold bst lw
    simp [dfr, bst, lw]
  | i + 1 => by
    have ih := bst_is h hin i
    have e : bst R T (i + 1 + 1) = if dfr R T (i + 1) (i + 1) && (decide (bst R T (i + 1) < 0) || decide (R.getD (i + 1) 0 < R.getD (bst R T (i + 1)).toNat 0)) then ((i + 1 : Nat) : Int) else bst R T (i + 1) := rfl
    have e2 : lw R B (i + 1 + 1) = if fr R B (i + 1) && decide (R.getD (i + 1) 0 < R.getD (lw R B (i + 1)) 0) then i + 1 else lw R B (i + 1) := rfl
    rw [e, e2, ih, dfr_is h hin, Int.toNat_natCast, decide_eq_false (show ¬ ((lw R B (i + 1) : Nat) : Int) < 0 by omega), Bool.false_or]
    unfold fr
    split <;> rfl
end Go.Proofs.Ytaiccmbhdgecgaa
